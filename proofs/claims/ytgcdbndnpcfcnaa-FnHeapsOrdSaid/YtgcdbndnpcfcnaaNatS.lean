/- The model's OrdNatural. -/
import Derived.Test.YtgcdbndnpcfcnaaNat
import Derived.Test.YtgcdbndnpcfcnaaAddT
namespace Go.Proofs.Ytgcdbndnpcfcnaa
set_option maxRecDepth 100000
open Go.RowKit

def NatS (w : World) (s t : T) (gk : Nat) (v10 v11 v12 v13 : Value) (wr : World) : Prop :=
  ∃ (i j : Nat) (p d1 u1 d2 u2 : T) (es : List Value) (a10 a11 : Option Addr) (c10 c11 : Nat), v12 = .int .i64 i ∧ v13 = .int .i64 j ∧ gk + i + j = s.cnt + t.cnt ∧ d1.app u1 = s ∧ d1.cnt = i ∧ d2.app u2 = t ∧ d2.cnt = j ∧
    T.nat s t = p.app (T.nat u1 u2) ∧ p.cnt ≤ i + j ∧ v10 = .slice a10 p.cnt c10 ∧ v11 = .slice a11 p.cnt c11 ∧ Two w wr v10 v11 p es ∧ Below w.heap.size w wr

def NatSEnd (w : World) (s t : T) (v10 v11 : Value) (wr : World) : Prop :=
  ∃ (es : List Value) (a10 a11 : Option Addr) (c10 c11 : Nat), v10 = .slice a10 (T.nat s t).cnt c10 ∧ v11 = .slice a11 (T.nat s t).cnt c11 ∧ Two w wr v10 v11 (T.nat s t) es ∧ Below w.heap.size w wr

/-- Which way a round goes. -/
def NatWay (u1 u2 : T) (cv : Int) : Prop :=
  (cv = 1 ∧ ∃ n f q, u1 = .c n f q ∧ T.nat u1 u2 = .c n f (T.nat q u2)) ∨ (cv = -1 ∧ ∃ m f r, u2 = .c m f r ∧ T.nat u1 u2 = .c m f (T.nat u1 r)) ∨
    (cv = 0 ∧ ∃ n m f q r, u1 = .c n f q ∧ u2 = .c m f r ∧ T.nat u1 u2 = .c (n + m) f (T.nat q r))

theorem NatWay.left (m : Int) (f r : T) : NatWay .z (.c m f r) (-1) := .inr (.inl ⟨rfl, m, f, r, rfl, by rw [T.z_nat, T.z_nat]⟩)
theorem NatWay.right (n : Int) (e q : T) : NatWay (.c n e q) .z 1 := .inl ⟨rfl, n, e, q, rfl, by rw [T.nat_z, T.nat_z]⟩
theorem NatWay.both (n m : Int) (e f q r : T) : NatWay (.c n e q) (.c m f r) (e.cmp f) := by
  rcases T.cmp_vals e f with h | h | h
  · rw [h]; exact .inr (.inl ⟨rfl, m, f, r, rfl, T.nat_lt n m q r h⟩)
  · have he := T.cmp_eq h
    rw [h]; subst he; exact .inr (.inr ⟨rfl, n, m, e, q, r, rfl, rfl, T.nat_eq n m q r h⟩)
  · rw [h]; exact .inl ⟨rfl, n, e, q, rfl, T.nat_gt n m q r h⟩

set_option maxRecDepth 100000 in
set_option maxHeartbeats 4000000 in
theorem spec_OrdNatural (a1 a2 : Option Addr) (n1 c1 n2 c2 : Nat) (xs ys : List Int) (w : World) (hx : Sl w a1 n1 c1 xs) (hy : Sl w a2 n2 c2 ys) :
    Calls Try.prog 85 #[.slice a1 n1 c1, .slice a2 n2 c2] w (OrdOkPost w (T.natRow xs ys) (T.natOk xs ys)) := by
  obtain ⟨i0, hi, hz0, hz1, hz2⟩ := info_parts info_int
  obtain ⟨j0, hj, hy0, hy1, hy2⟩ := info_parts info_ints
  have HX := Lib.hid hx
  have HY := Lib.hid hy
  rcases vld_tf xs with h1 | h1
  · have k1 := Lib.hid (spec_valid a1 n1 c1 xs w hx h1)
    rcases vld_tf ys with h2 | h2
    · obtain ⟨e1, e2⟩ := T.natRow_val h1 h2
      rw [e1, e2]
      obtain ⟨b1, o1, s, rfl, rfl, hs, hos, hat1, hn1, hl1, hp1, hcc1, hm1⟩ := hx.valid h1
      obtain ⟨b2, o2, t, rfl, rfl, ht, hot, hat2, hn2, hl2, hp2, hcc2, hm2⟩ := hy.valid h2
      rw [hos, hot]
      have Hn1 := Lib.hid hn1
      have Hn2 := Lib.hid hn2
      have HA1 := Lib.hid hat1
      have HA2 := Lib.hid hat2
      have HS := Lib.hid hs
      have HT := Lib.hid ht
      have H2v := Lib.hid h2
      have hes := T.enc_len s
      have het := T.enc_len t
      have hcs := T.cnt_le s
      have hct := T.cnt_le t
      have hsc : s.cnt ≤ 1000 := by omega
      have htc : t.cnt ≤ 1000 := by omega
      have hle3 : (T.nat s t).enc.length ≤ 1000000000000 := by have := T.enc_len (T.nat s t); have := T.nat_len s t; omega
      have hfl : ∀ (d : T) (n : Int) (f r : T), d.app (.c n f r) = s → f.enc.length ≤ 5000 := by
        intro d n f r h
        have h1 := congrArg (fun x => T.body x) h
        have h2 := congrArg List.length h1
        simp only [T.app_body, T.body_c, List.length_append, List.length_cons] at h2
        omega
      have hgl : ∀ (d : T) (n : Int) (f r : T), d.app (.c n f r) = t → f.enc.length ≤ 5000 := by
        intro d n f r h
        have h1 := congrArg (fun x => T.body x) h
        have h2 := congrArg List.length h1
        simp only [T.app_body, T.body_c, List.length_append, List.length_cons] at h2
        omega
      have HFL := Lib.hid hfl
      have HGL := Lib.hid hgl
      clear hx hy h1 h2 e1 e2 hos hot hat1 hat2 hs ht hn1 hn2 hes het hcs hct hfl hgl
      go_enter Try.func85, Try.ntmps85
      go_wp2_with fail
      refine (k1.out).mono ?_
      rintro ee w1 ⟨rfl, hb1⟩
      have Hb1 := Lib.hid hb1
      have k2 := Lib.hid (spec_valid (some ⟨b2, o2, none⟩) n2 c2 t.enc w1 (HY.out.below hb1) H2v.out)
      clear hb1
      go_wp2_with fail
      refine (k2.out).mono ?_
      rintro ee w2 ⟨rfl, hb2⟩
      have Hb2 := Lib.hid (Hb1.out.trans (hb2.mono Hb1.out.size))
      have k3 := Lib.hid (l1Terms_old b1 o1 n1 c1 s.enc s w2 Hn1.out.symm (by omega) hcc1 hm1 (HA1.out.below Hb2.out (HA1.out.lt (T.enc_ne s))) rfl)
      clear hb2
      go_wp2_with fail
      refine (k3.out).mono ?_
      rintro ee w3 ⟨v6, v7, es7, rfl, ho6, ho7, hE7, _, hb3⟩
      obtain ⟨a6, c6, rfl, hv6⟩ := own_form ho6
      obtain ⟨a7, c7, rfl, hv7⟩ := own_form ho7
      have Hb3 := Lib.hid (Hb2.out.trans (hb3.mono Hb2.out.size))
      have HE7 := Lib.hid (hE7.below hb3)
      have Hv6 := Lib.hid hv6
      have Hv7 := Lib.hid hv7
      have k4 := Lib.hid (l1Terms_old b2 o2 n2 c2 t.enc t w3 Hn2.out.symm (by omega) hcc2 hm2 (HA2.out.below Hb3.out (HA2.out.lt (T.enc_ne t))) rfl)
      clear ho6 ho7 hE7 hb3 hv6 hv7
      go_wp2_with fail
      refine (k4.out).mono ?_
      rintro ee w4 ⟨v8, v9, es9, rfl, ho8, ho9, hE9, _, hb4⟩
      obtain ⟨a8, c8, rfl, hv8⟩ := own_form ho8
      obtain ⟨a9, c9, rfl, hv9⟩ := own_form ho9
      have Hb4' := Lib.hid hb4
      have Hb4 := Lib.hid (Hb3.out.trans (hb4.mono Hb3.out.size))
      have HE7' := Lib.hid (HE7.out.below hb4)
      have HE9 := Lib.hid (hE9.below hb4)
      have Hv8 := Lib.hid hv8
      have Hv9 := Lib.hid hv9
      have hs43 := hb4.size
      have hst0 : NatS w4 s t (s.cnt + t.cnt) (.slice (some ⟨w4.heap.size, 0, none⟩) 0 0) (.slice (some ⟨w4.heap.size + 1, 0, none⟩) 0 0) (.int .i64 (0 : Nat)) (.int .i64 (0 : Nat)) ((w4.alloc (.cells #[] 3)).alloc (.cells #[] 23)) := by
        have hL : (w4.alloc (.cells #[] 3)).ownsRow w4.heap.size 3 1 (.slice (some ⟨w4.heap.size, 0, none⟩) 0 0) 0 (ints []) := World.ownsRow_lit w4 #[] 0 (Nat.le_refl _) (by simp [maxLen]) rfl
        have hL2 := World.ownsRow_lit (base := w4.heap.size) (e := 23) (size := 1) (w4.alloc (.cells #[] 3)) #[] 0 (by simp) (by simp [maxLen]) rfl
        rw [World.size_alloc] at hL2
        exact ⟨0, 0, .z, .z, s, .z, t, [], _, _, 0, 0, rfl, rfl, by omega, rfl, rfl, rfl, rfl, rfl, Nat.le_refl _, rfl, rfl, ⟨hL.alloc _, hL2, rfl⟩, ((Below.refl _ _).alloc (Nat.le_refl _) _).alloc (by simp) _⟩
      have Hst0 := Lib.hid hst0
      clear ho8 ho9 hE9 hb4 hv8 hv9 hst0
      go_upto_block 0 with fail
      go_cut [10, 11] (fun v10 v11 wx => NatSEnd w4 s t v10 v11 wx)
      case first =>
        go_wp2_with fail
        go_loopg [10, 11, 12, 13] (s.cnt + t.cnt) (fun gk v10 v11 v12 v13 wr => NatS w4 s t gk v10 v11 v12 v13 wr)
        case atStart => exact Hst0.out
        case round =>
          obtain ⟨i, j, p, d1, u1, d2, u2, es, a10, a11, c10, c11, rfl, rfl, hgk, hd1, hi1, hd2, hj2, hnat, hpc, rfl, rfl, ⟨ho10, ho11, hEp⟩, hbw⟩ := hrel
          obtain ⟨pn, hpn⟩ : ∃ pn, p.cnt = pn := ⟨_, rfl⟩
          rw [hpn] at ho10 ho11 hpc ⊢
          have Hpn := Lib.hid hpn
          have Hgk := Lib.hid hgk
          have HU := Lib.hid (show d1.app u1 = s ∧ d1.cnt = i ∧ d2.app u2 = t ∧ d2.cnt = j ∧ T.nat s t = p.app (T.nat u1 u2) from ⟨hd1, hi1, hd2, hj2, hnat⟩)
          have hct : s.cnt = i + u1.cnt ∧ t.cnt = j + u2.cnt := ⟨by rw [← hd1, T.app_cnt, hi1], by rw [← hd2, T.app_cnt, hj2]⟩
          have Hct := Lib.hid hct
          have his : i ≤ s.cnt := by omega
          have hjt : j ≤ t.cnt := by omega
          have Hbw := Lib.hid hbw
          have Ho10 := Lib.hid ho10
          have Ho11 := Lib.hid ho11
          have HEp := Lib.hid hEp
          have hws := hbw.size
          clear hpn hgk hd1 hi1 hd2 hj2 hnat hct hbw ho10 ho11 hEp
          by_cases hzz : u1 = .z ∧ u2 = .z
          · have hp : T.nat s t = p := by rw [HU.out.2.2.2.2, hzz.1, hzz.2, T.z_nat, T.app_z]
            have hfin : NatSEnd w4 s t (.slice a10 pn c10) (.slice a11 pn c11) wr := by
              unfold NatSEnd Two
              rw [hp, Hpn.out]
              exact ⟨es, a10, a11, c10, c11, rfl, rfl, ⟨Ho10.out, Ho11.out, HEp.out⟩, Hbw.out⟩
            have hq1 : i = s.cnt := by have h1 := Hct.out.1; rw [hzz.1] at h1; simp [T.cnt] at h1; omega
            have hq2 : j = t.cnt := by have h1 := Hct.out.2; rw [hzz.2] at h1; simp [T.cnt] at h1; omega
            have hq3 : decide ((i : Int) < (s.cnt : Int)) = false := by simp; omega
            have hq4 : decide ((j : Int) < (t.cnt : Int)) = false := by simp; omega
            have Hfin := Lib.hid hfin
            clear hp hfin hzz
            go_wp2_with fail
            go_meet
            exact Hfin.out
          · have hor : i < s.cnt ∨ j < t.cnt := by
              have h1 := Hct.out.1
              have h2 := Hct.out.2
              cases u1 with
              | c n e q => simp [T.cnt] at h1; omega
              | z => cases u2 with
                | z => exact absurd ⟨rfl, rfl⟩ hzz
                | c n e q => simp [T.cnt] at h2; omega
            go_upto_region 9 with fail
            go_cut [45] (fun v45 wx => v45 = .bool true ∧ wr = wx)
            case first =>
              by_cases hia : i < s.cnt
              · have hq3 : decide ((i : Int) < (s.cnt : Int)) = true := by simp; omega
                go_wp2_with fail
                go_meet
                exact ⟨rfl, rfl⟩
              · have hja : j < t.cnt := by omega
                have hq3 : decide ((i : Int) < (s.cnt : Int)) = false := by simp; omega
                have hq4 : decide ((j : Int) < (t.cnt : Int)) = true := by simp; omega
                go_wp2_with fail
                go_meet
                exact ⟨rfl, rfl⟩
            case rest =>
              obtain ⟨rfl, rfl⟩ := hcut
              go_step
              go_upto_block 2 with fail
              go_cut [14] (fun v14 wx => ∃ cv, v14 = .int .i64 cv ∧ NatWay u1 u2 cv ∧ Below wr.heap.size wr wx)
              case first =>
                by_cases hu1z : u1 = .z
                · obtain ⟨m, f, r, hu2⟩ : ∃ m f r, u2 = .c m f r := by
                    cases u2 with
                    | z => exact absurd ⟨hu1z, rfl⟩ hzz
                    | c m f r => exact ⟨m, f, r, rfl⟩
                  have hq1 : i = s.cnt := by have h1 := Hct.out.1; rw [hu1z] at h1; simp [T.cnt] at h1; omega
                  have hq2 : ((i : Int) == (s.cnt : Int)) = true := by simp; omega
                  have hfin : NatWay u1 u2 (-1) := by rw [hu1z, hu2]; exact NatWay.left m f r
                  have Hfin := Lib.hid hfin
                  clear hu1z hu2 hfin hzz
                  go_wp2_with fail
                  go_meet
                  exact ⟨-1, rfl, Hfin.out, Below.refl _ _⟩
                · obtain ⟨n, e, q, hu1⟩ : ∃ m f r, u1 = .c m f r := by
                    cases u1 with
                    | z => exact absurd rfl hu1z
                    | c m f r => exact ⟨m, f, r, rfl⟩
                  have hiq : i < s.cnt := by have h1 := Hct.out.1; rw [hu1] at h1; simp [T.cnt] at h1; omega
                  have hq2 : ((i : Int) == (s.cnt : Int)) = false := by simp; omega
                  by_cases hu2z : u2 = .z
                  · have hq3 : j = t.cnt := by have h1 := Hct.out.2; rw [hu2z] at h1; simp [T.cnt] at h1; omega
                    have hq4 : ((j : Int) == (t.cnt : Int)) = true := by simp; omega
                    have hfin : NatWay u1 u2 1 := by rw [hu1, hu2z]; exact NatWay.right n e q
                    have Hfin := Lib.hid hfin
                    clear hu1z hu2z hu1 hfin hzz
                    go_wp2_with fail
                    go_meet
                    exact ⟨1, rfl, Hfin.out, Below.refl _ _⟩
                  · obtain ⟨m, f, r, hu2⟩ : ∃ m f r, u2 = .c m f r := by
                      cases u2 with
                      | z => exact absurd rfl hu2z
                      | c m f r => exact ⟨m, f, r, rfl⟩
                    have hjq : j < t.cnt := by have h1 := Hct.out.2; rw [hu2] at h1; simp [T.cnt] at h1; omega
                    have hq4 : ((j : Int) == (t.cnt : Int)) = false := by simp; omega
                    have hfin : NatWay u1 u2 (e.cmp f) := by rw [hu1, hu2]; exact NatWay.both n m e f q r
                    have hlt1 : i < s.cnt := by have h1 := Hct.out.1; rw [hu1] at h1; simp [T.cnt] at h1; omega
                    obtain ⟨g6, rfl, hgg6, hccg6⟩ := Hv6.out (by omega)
                    obtain ⟨g7, rfl, hgg7, hccg7⟩ := Hv7.out (by omega)
                    have hdd1 : d1.app (.c n e q) = s := by rw [← hu1]; exact HU.out.1
                    obtain ⟨be, oe, ce, pp1, hpE1, hce1, hce2⟩ := HE7'.out.pick hdd1 HU.out.2.1
                    have hggg6 : g6 < w4.heap.size := by omega
                    have hggg7 : g7 < w4.heap.size := by omega
                    have xt1 : w4.cell? ⟨g6, i, none⟩ = some (.int .i64 n) := (Hb4'.out.cell (p := ⟨g6, i, none⟩) hgg6).trans (by rw [hccg6 _ (by omega)]; show (ints s.times)[i]? = _; rw [ints, List.getElem?_map, T.times_pick hdd1 HU.out.2.1]; rfl)
                    have xe1 : w4.cell? ⟨g7, i, none⟩ = some (.slice (some ⟨be, oe, none⟩) e.enc.length ce) := (Hb4'.out.cell (p := ⟨g7, i, none⟩) hgg7).trans (by rw [hccg7 _ (by omega)]; exact pp1)
                    have hlt2 : j < t.cnt := by have h1 := Hct.out.2; rw [hu2] at h1; simp [T.cnt] at h1; omega
                    obtain ⟨g8, rfl, hgg8, hccg8⟩ := Hv8.out (by omega)
                    obtain ⟨g9, rfl, hgg9, hccg9⟩ := Hv9.out (by omega)
                    have hdd2 : d2.app (.c m f r) = t := by rw [← hu2]; exact HU.out.2.2.1
                    obtain ⟨bf, of, cf, pp2, hpE2, hcf1, hcf2⟩ := HE9.out.pick hdd2 HU.out.2.2.2.1
                    have hggg8 : g8 < w4.heap.size := by omega
                    have hggg9 : g9 < w4.heap.size := by omega
                    have xt2 : w4.cell? ⟨g8, j, none⟩ = some (.int .i64 m) := (by rw [hccg8 _ (by omega)]; show (ints t.times)[j]? = _; rw [ints, List.getElem?_map, T.times_pick hdd2 HU.out.2.2.2.1]; rfl)
                    have xe2 : w4.cell? ⟨g9, j, none⟩ = some (.slice (some ⟨bf, of, none⟩) f.enc.length cf) := (by rw [hccg9 _ (by omega)]; exact pp2)
                    have x7 := (Hbw.out.cell (p := ⟨g7, i, none⟩) hggg7).trans xe1
                    have x9 := (Hbw.out.cell (p := ⟨g9, j, none⟩) hggg9).trans xe2
                    have hle := HFL.out _ _ _ _ hdd1
                    have hlf := HGL.out _ _ _ _ hdd2
                    have kc := Lib.hid (l1Compare_any (e.body.length + 1) be oe ce bf of cf e.enc.length f.enc.length e f wr.drew (by omega) rfl rfl (by omega) (by omega) hce1 hce2 hcf1 hcf2 (hpE1.below Hbw.out.drew (hpE1.lt (T.enc_ne e))) (hpE2.below Hbw.out.drew (hpE2.lt (T.enc_ne f))))
                    have Hfin := Lib.hid hfin
                    clear hu1z hu2z hu1 hu2 hfin hzz xt1 xt2 xe1 xe2 pp1 pp2 hpE1 hpE2 hdd1 hdd2 hccg6 hccg7 hccg8 hccg9
                    go_wp2_with fail
                    go_still_tail 8, (by kernel_rfl)
                    change wpList _ _ _ _ _ wr.drew
                    go_wp2_with fail
                    refine (kc.out).mono ?_
                    rintro ee w5 ⟨rfl, hb5⟩
                    have Hb5 := Lib.hid (((Below.refl wr.heap.size wr).drew).trans hb5)
                    clear hb5
                    go_wp2_with fail
                    go_meet
                    exact ⟨_, rfl, Hfin.out, Hb5.out⟩
              case rest =>
                obtain ⟨cv, rfl, hway, hby⟩ := hcut
                go_step
                obtain ⟨wy, rfl⟩ : ∃ wy : World, wy = wc := ⟨_, rfl⟩
                have hwy : w4.heap.size ≤ wy.heap.size := Nat.le_trans hws hby.size
                have Hbwy := Lib.hid (Hbw.out.trans (hby.mono hws))
                have Ho10k := Lib.hid (ownsRow_below' Ho10.out hby)
                have Ho11k := Lib.hid (ownsRow_below' Ho11.out hby)
                clear hby
                rcases hway with ⟨rfl, n, f, q, hu, hn⟩ | ⟨rfl, n, f, q, hu, hn⟩ | ⟨rfl, n, m, f, q, r, hu, hu2, hn⟩
                · have hlt : i < s.cnt := by have h1 := Hct.out.1; rw [hu] at h1; simp [T.cnt] at h1; omega
                  obtain ⟨g6, rfl, hgg6, hccg6⟩ := Hv6.out (by omega)
                  obtain ⟨g7, rfl, hgg7, hccg7⟩ := Hv7.out (by omega)
                  have hdd : d1.app (.c n f q) = s := by rw [← hu]; exact HU.out.1
                  obtain ⟨bf, of, cf, pp, hpE, hcf1, hcf2⟩ := HE7'.out.pick hdd HU.out.2.1
                  have hggg6 : g6 < w4.heap.size := by omega
                  have hggg7 : g7 < w4.heap.size := by omega
                  have xt : w4.cell? ⟨g6, i, none⟩ = some (.int .i64 n) := (Hb4'.out.cell (p := ⟨g6, i, none⟩) hgg6).trans (by rw [hccg6 _ (by omega)]; show (ints s.times)[i]? = _; rw [ints, List.getElem?_map, T.times_pick hdd HU.out.2.1]; rfl)
                  have xe : w4.cell? ⟨g7, i, none⟩ = some (.slice (some ⟨bf, of, none⟩) f.enc.length cf) := (Hb4'.out.cell (p := ⟨g7, i, none⟩) hgg7).trans (by rw [hccg7 _ (by omega)]; exact pp)
                  have Hn := Lib.hid hn
                  have q1 : IntKind.i64.wrap ((i : Int) + 1) = ((i + 1 : Nat) : Int) := by rw [IntWalk.i64_in _ (by omega)]; rfl
                  have x6 := (Hbwy.out.cell (p := ⟨g6, i, none⟩) hggg6).trans xt
                  have x7 := (Hbwy.out.cell (p := ⟨g7, i, none⟩) hggg7).trans xe
                  clear hn xt xe pp hccg6 hccg7
                  go_wp2_with (first
                    | (at_builtin; refine wpList_append_own _ rfl (.tmp 91) (.tmp 96) 23 rfl w4.heap.size 3 i0 (.int .i64 0) 1 8 Try.underlying23 hi hz0 hz1 hz2 rfl (by decide) _ pn (ints p.times) rfl (Ho10k.out.alloc _) ⟨wy.heap.size, 0, none⟩ 1 1 [.int .i64 (n)] rfl rfl (cell_one_new _ _ _) (ints_oneCell _ [n]) (by unfold maxLen; omega) (by omega) (by simp; omega) ?_; intro v1 wa ho1 hg1 _; have hsa : wy.heap.size + 1 ≤ wa.heap.size := le_of_alloc hg1; have Hk11 := Lib.hid (kept_of Ho11k.out hg1 (own_ne Ho11k.out Ho10k.out (by decide))); have x3 : wa.cell? ⟨g7, i, none⟩ = some (.slice (some ⟨bf, of, none⟩) f.enc.length cf) := (hg1.cell (a := ⟨g7, i, none⟩) ((World.cell?_alloc_past _ _ _ (show g7 < wy.heap.size by omega)).trans x7) (fun h => by have h9 : w4.heap.size ≤ g7 := (Ho10k.out.lt _ h.symm).1; omega)))
                    | (at_builtin; refine wpList_append_own _ rfl (.tmp 98) (.tmp 103) 40 rfl w4.heap.size 23 j0 (.slice none 0 0) 1 24 Try.underlying40 hj hy0 hy1 hy2 rfl (by decide) _ pn es rfl (Hk11.out.alloc _) ⟨wa.heap.size, 0, none⟩ 1 1 [.slice (some ⟨bf, of, none⟩) f.enc.length cf] rfl rfl (cell_one_new _ _ _) (slice_oneCell _ _ _) (by unfold maxLen; omega) (by omega) (by simp; omega) ?_; intro v2 wb ho2 hg2 _))
                  have ho1' := kept_of ho1 hg2 (own_ne ho1 Hk11.out (by decide))
                  obtain ⟨a1', c1', rfl, _⟩ := own_form ho1'
                  obtain ⟨a2', c2', rfl, _⟩ := own_form ho2
                  have hba := (Hbwy.out.alloc hwy _).grown hg1 (by simp; omega) (fun r h => (Ho10k.out.lt r h).1)
                  have hbb := (hba.alloc (by omega) _).grown hg2 (by simp; omega) (fun r h => (Hk11.out.lt r h).1)
                  have hfin : NatS w4 s t (gk - 1) (.slice a1' (pn + 1) c1') (.slice a2' (pn + 1) c2') (.int .i64 ((i + 1 : Nat) : Int)) (.int .i64 ((j : Nat) : Int)) wb := by
                    have hdc : (p.app (.c (n) f .z)).cnt = pn + 1 := by rw [T.app_cnt, Hpn.out]; rfl
                    refine ⟨i + 1, j, p.app (.c n f .z), d1.app (.c n f .z), q, d2, u2, es ++ [.slice (some ⟨bf, of, none⟩) f.enc.length cf], a1', a2', c1', c2', rfl, rfl, by have := Hgk.out; omega, by rw [T.app_assoc]; exact hdd, by rw [T.app_cnt, HU.out.2.1]; rfl, HU.out.2.2.1, HU.out.2.2.2.1, by rw [HU.out.2.2.2.2, Hn.out, T.app_assoc]; rfl, by omega, by rw [hdc], by rw [hdc], ⟨?_, ?_, ?_⟩, hbb⟩
                    · rw [hdc, ← ints_snoc]; exact ho1'
                    · rw [hdc]; exact ho2
                    · exact HEp.out.snoc hpE hcf1 hcf2
                  have Hfin := Lib.hid hfin
                  clear ho1 hg1 ho2 hg2 ho1' hba hbb hfin
                  go_wp2_with fail
                  go_roundg (gk - 1)
                  case measure => have := Hgk.out; omega
                  case rel => exact Hfin.out
                · have hlt : j < t.cnt := by have h1 := Hct.out.2; rw [hu] at h1; simp [T.cnt] at h1; omega
                  obtain ⟨g8, rfl, hgg8, hccg8⟩ := Hv8.out (by omega)
                  obtain ⟨g9, rfl, hgg9, hccg9⟩ := Hv9.out (by omega)
                  have hdd : d2.app (.c n f q) = t := by rw [← hu]; exact HU.out.2.2.1
                  obtain ⟨bf, of, cf, pp, hpE, hcf1, hcf2⟩ := HE9.out.pick hdd HU.out.2.2.2.1
                  have hggg8 : g8 < w4.heap.size := by omega
                  have hggg9 : g9 < w4.heap.size := by omega
                  have xt : w4.cell? ⟨g8, j, none⟩ = some (.int .i64 n) := (by rw [hccg8 _ (by omega)]; show (ints t.times)[j]? = _; rw [ints, List.getElem?_map, T.times_pick hdd HU.out.2.2.2.1]; rfl)
                  have xe : w4.cell? ⟨g9, j, none⟩ = some (.slice (some ⟨bf, of, none⟩) f.enc.length cf) := (by rw [hccg9 _ (by omega)]; exact pp)
                  have Hn := Lib.hid hn
                  have q1 : IntKind.i64.wrap ((j : Int) + 1) = ((j + 1 : Nat) : Int) := by rw [IntWalk.i64_in _ (by omega)]; rfl
                  have x6 := (Hbwy.out.cell (p := ⟨g8, j, none⟩) hggg8).trans xt
                  have x7 := (Hbwy.out.cell (p := ⟨g9, j, none⟩) hggg9).trans xe
                  clear hn xt xe pp hccg8 hccg9
                  go_wp2_with (first
                    | (at_builtin; refine wpList_append_own _ rfl (.tmp 109) (.tmp 114) 23 rfl w4.heap.size 3 i0 (.int .i64 0) 1 8 Try.underlying23 hi hz0 hz1 hz2 rfl (by decide) _ pn (ints p.times) rfl (Ho10k.out.alloc _) ⟨wy.heap.size, 0, none⟩ 1 1 [.int .i64 (n)] rfl rfl (cell_one_new _ _ _) (ints_oneCell _ [n]) (by unfold maxLen; omega) (by omega) (by simp; omega) ?_; intro v1 wa ho1 hg1 _; have hsa : wy.heap.size + 1 ≤ wa.heap.size := le_of_alloc hg1; have Hk11 := Lib.hid (kept_of Ho11k.out hg1 (own_ne Ho11k.out Ho10k.out (by decide))); have x3 : wa.cell? ⟨g9, j, none⟩ = some (.slice (some ⟨bf, of, none⟩) f.enc.length cf) := (hg1.cell (a := ⟨g9, j, none⟩) ((World.cell?_alloc_past _ _ _ (show g9 < wy.heap.size by omega)).trans x7) (fun h => by have h9 : w4.heap.size ≤ g9 := (Ho10k.out.lt _ h.symm).1; omega)))
                    | (at_builtin; refine wpList_append_own _ rfl (.tmp 116) (.tmp 121) 40 rfl w4.heap.size 23 j0 (.slice none 0 0) 1 24 Try.underlying40 hj hy0 hy1 hy2 rfl (by decide) _ pn es rfl (Hk11.out.alloc _) ⟨wa.heap.size, 0, none⟩ 1 1 [.slice (some ⟨bf, of, none⟩) f.enc.length cf] rfl rfl (cell_one_new _ _ _) (slice_oneCell _ _ _) (by unfold maxLen; omega) (by omega) (by simp; omega) ?_; intro v2 wb ho2 hg2 _))
                  have ho1' := kept_of ho1 hg2 (own_ne ho1 Hk11.out (by decide))
                  obtain ⟨a1', c1', rfl, _⟩ := own_form ho1'
                  obtain ⟨a2', c2', rfl, _⟩ := own_form ho2
                  have hba := (Hbwy.out.alloc hwy _).grown hg1 (by simp; omega) (fun r h => (Ho10k.out.lt r h).1)
                  have hbb := (hba.alloc (by omega) _).grown hg2 (by simp; omega) (fun r h => (Hk11.out.lt r h).1)
                  have hfin : NatS w4 s t (gk - 1) (.slice a1' (pn + 1) c1') (.slice a2' (pn + 1) c2') (.int .i64 ((i : Nat) : Int)) (.int .i64 ((j + 1 : Nat) : Int)) wb := by
                    have hdc : (p.app (.c (n) f .z)).cnt = pn + 1 := by rw [T.app_cnt, Hpn.out]; rfl
                    refine ⟨i, j + 1, p.app (.c n f .z), d1, u1, d2.app (.c n f .z), q, es ++ [.slice (some ⟨bf, of, none⟩) f.enc.length cf], a1', a2', c1', c2', rfl, rfl, by have := Hgk.out; omega, HU.out.1, HU.out.2.1, by rw [T.app_assoc]; exact hdd, by rw [T.app_cnt, HU.out.2.2.2.1]; rfl, by rw [HU.out.2.2.2.2, Hn.out, T.app_assoc]; rfl, by omega, by rw [hdc], by rw [hdc], ⟨?_, ?_, ?_⟩, hbb⟩
                    · rw [hdc, ← ints_snoc]; exact ho1'
                    · rw [hdc]; exact ho2
                    · exact HEp.out.snoc hpE hcf1 hcf2
                  have Hfin := Lib.hid hfin
                  clear ho1 hg1 ho2 hg2 ho1' hba hbb hfin
                  go_wp2_with fail
                  go_roundg (gk - 1)
                  case measure => have := Hgk.out; omega
                  case rel => exact Hfin.out
                · have hlt : i < s.cnt := by have h1 := Hct.out.1; rw [hu] at h1; simp [T.cnt] at h1; omega
                  obtain ⟨g6, rfl, hgg6, hccg6⟩ := Hv6.out (by omega)
                  obtain ⟨g7, rfl, hgg7, hccg7⟩ := Hv7.out (by omega)
                  have hdd : d1.app (.c n f q) = s := by rw [← hu]; exact HU.out.1
                  obtain ⟨bf, of, cf, pp, hpE, hcf1, hcf2⟩ := HE7'.out.pick hdd HU.out.2.1
                  have hggg6 : g6 < w4.heap.size := by omega
                  have hggg7 : g7 < w4.heap.size := by omega
                  have xt : w4.cell? ⟨g6, i, none⟩ = some (.int .i64 n) := (Hb4'.out.cell (p := ⟨g6, i, none⟩) hgg6).trans (by rw [hccg6 _ (by omega)]; show (ints s.times)[i]? = _; rw [ints, List.getElem?_map, T.times_pick hdd HU.out.2.1]; rfl)
                  have xe : w4.cell? ⟨g7, i, none⟩ = some (.slice (some ⟨bf, of, none⟩) f.enc.length cf) := (Hb4'.out.cell (p := ⟨g7, i, none⟩) hgg7).trans (by rw [hccg7 _ (by omega)]; exact pp)
                  have hlt2 : j < t.cnt := by have h1 := Hct.out.2; rw [hu2] at h1; simp [T.cnt] at h1; omega
                  obtain ⟨g8, rfl, hgg8, hccg8⟩ := Hv8.out (by omega)
                  obtain ⟨g9, rfl, hgg9, hccg9⟩ := Hv9.out (by omega)
                  have hdd2 : d2.app (.c m f r) = t := by rw [← hu2]; exact HU.out.2.2.1
                  obtain ⟨bf', of', cf', pp2, hpE2, hcf1', hcf2'⟩ := HE9.out.pick hdd2 HU.out.2.2.2.1
                  have hggg8 : g8 < w4.heap.size := by omega
                  have hggg9 : g9 < w4.heap.size := by omega
                  have xt2 : w4.cell? ⟨g8, j, none⟩ = some (.int .i64 m) := (by rw [hccg8 _ (by omega)]; show (ints t.times)[j]? = _; rw [ints, List.getElem?_map, T.times_pick hdd2 HU.out.2.2.2.1]; rfl)
                  have xe2 : w4.cell? ⟨g9, j, none⟩ = some (.slice (some ⟨bf', of', none⟩) f.enc.length cf') := (by rw [hccg9 _ (by omega)]; exact pp2)
                  have Hn := Lib.hid hn
                  have hbn := T.nf_times HS.out n (by rw [← hdd, T.times_app]; simp [T.times])
                  have hbm := T.nf_times HT.out m (by rw [← hdd2, T.times_app]; simp [T.times])
                  have q1 : IntKind.i64.wrap ((i : Int) + 1) = ((i + 1 : Nat) : Int) := by rw [IntWalk.i64_in _ (by omega)]; rfl
                  have q2 : IntKind.i64.wrap ((j : Int) + 1) = ((j + 1 : Nat) : Int) := by rw [IntWalk.i64_in _ (by omega)]; rfl
                  have q3 : IntKind.i64.wrap (n + m) = n + m := IntWalk.i64_in _ (by omega)
                  have x6 := (Hbwy.out.cell (p := ⟨g6, i, none⟩) hggg6).trans xt
                  have x7 := (Hbwy.out.cell (p := ⟨g7, i, none⟩) hggg7).trans xe
                  have x8 := (Hbwy.out.cell (p := ⟨g8, j, none⟩) hggg8).trans xt2
                  clear hn xt xe xt2 xe2 pp pp2 hccg6 hccg7 hccg8 hccg9
                  go_wp2_with fail
                  have HW1 := Lib.hid (show ((wy.alloc (.cells #[.int .i64 (n + m)] 3)).drew).ownsRow w4.heap.size 3 1 (.slice a10 pn c10) pn (ints p.times) from (Ho10k.out.alloc _).drew)
                  have HW2 := Lib.hid (show ((wy.alloc (.cells #[.int .i64 (n + m)] 3)).drew).ownsRow w4.heap.size 23 1 (.slice a11 pn c11) pn es from (Ho11k.out.alloc _).drew)
                  have HCN := Lib.hid (show ∀ j u, [Value.int .i64 (n + m)][j]? = some u → ((wy.alloc (.cells #[.int .i64 (n + m)] 3)).drew).cell? ((⟨wy.heap.size, 0, none⟩ : Addr).add j) = some u from cell_one_new _ _ _)
                  have x7w : ((wy.alloc (.cells #[.int .i64 (n + m)] 3)).drew).cell? ⟨g7, i, none⟩ = some (.slice (some ⟨bf, of, none⟩) f.enc.length cf) := (World.cell?_alloc_past _ _ _ (show g7 < wy.heap.size by omega)).trans x7
                  have x6w : ((wy.alloc (.cells #[.int .i64 (n + m)] 3)).drew).cell? ⟨g6, i, none⟩ = some (.int .i64 n) := (World.cell?_alloc_past _ _ _ (show g6 < wy.heap.size by omega)).trans x6
                  have x8w : ((wy.alloc (.cells #[.int .i64 (n + m)] 3)).drew).cell? ⟨g8, j, none⟩ = some (.int .i64 m) := (World.cell?_alloc_past _ _ _ (show g8 < wy.heap.size by omega)).trans x8
                  have Hx7w := Lib.hid x7w
                  have Hx6w := Lib.hid x6w
                  have Hx8w := Lib.hid x8w
                  clear x7w x6w x8w
                  go_region_held3 (fun w' => w'.cell? ⟨g6, i, none⟩ = some (.int .i64 n) ∧ w'.cell? ⟨g8, j, none⟩ = some (.int .i64 m) ∧ w'.cell? ⟨g7, i, none⟩ = some (.slice (some ⟨bf, of, none⟩) f.enc.length cf)) (first | go_keep | exact ⟨y6, y8, x3⟩)
                    ((first
                      | (refine step_append_own (by rfl) (.tmp 66) (.tmp 76) 23 (by rfl) w4.heap.size 3 i0 (.int .i64 0) 1 8 Try.underlying23 hi hz0 hz1 hz2 rfl (by decide) _ pn (ints p.times) (by rfl) (HW1.out) ⟨wy.heap.size, 0, none⟩ 1 1 [.int .i64 (n + m)] (by rfl) (by rfl) (HCN.out) (ints_oneCell _ [n + m]) (by unfold maxLen; omega) (by omega) (by simp; omega) ?_; intro v1 wa ho1 hg1 _; have Hk11 := Lib.hid ((HW2.out).kept hg1 (own_ne HW2.out HW1.out (by decide))); have hsa : wy.heap.size + 1 ≤ wa.heap.size := (by have := hg1.size; simpa using this); have Hho1 := Lib.hid ho1; have x3 : wa.cell? ⟨g7, i, none⟩ = some (.slice (some ⟨bf, of, none⟩) f.enc.length cf) := (hg1.cell (a := ⟨g7, i, none⟩) Hx7w.out (fun h => by have h9 : w4.heap.size ≤ g7 := (Ho10k.out.lt _ h.symm).1; omega)); have y6 : wa.cell? ⟨g6, i, none⟩ = some (.int .i64 n) := (hg1.cell (a := ⟨g6, i, none⟩) Hx6w.out (fun h => by have h9 : w4.heap.size ≤ g6 := (Ho10k.out.lt _ h.symm).1; omega)); have y8 : wa.cell? ⟨g8, j, none⟩ = some (.int .i64 m) := (hg1.cell (a := ⟨g8, j, none⟩) Hx8w.out (fun h => by have h9 : w4.heap.size ≤ g8 := (Ho10k.out.lt _ h.symm).1; omega)))
                      | fail))
                  go_wp2_with (first
                    | (at_builtin; refine wpList_append_own _ rfl (.tmp 66) (.tmp 76) 23 rfl w4.heap.size 3 i0 (.int .i64 0) 1 8 Try.underlying23 hi hz0 hz1 hz2 rfl (by decide) _ pn (ints p.times) rfl (Ho10d.out.alloc _) ⟨wd.heap.size, 0, none⟩ 1 1 [.int .i64 (n + m)] rfl rfl (cell_one_new _ _ _) (ints_oneCell _ [n + m]) (by unfold maxLen; omega) (by omega) (by simp; omega) ?_; intro v1 wa ho1 hg1 _; have hsa : wd.heap.size + 1 ≤ wa.heap.size := le_of_alloc hg1; have Hk11 := Lib.hid (kept_of Ho11d.out hg1 (own_ne Ho11d.out Ho10d.out (by decide))); have x3 : wa.cell? ⟨g7, i, none⟩ = some (.slice (some ⟨bf, of, none⟩) f.enc.length cf) := (hg1.cell (a := ⟨g7, i, none⟩) ((World.cell?_alloc_past _ _ _ (show g7 < wd.heap.size by omega)).trans x7d) (fun h => by have h9 : w4.heap.size ≤ g7 := (Ho10d.out.lt _ h.symm).1; omega)))
                    | (at_builtin; refine wpList_append_own _ rfl (.tmp 78) (.tmp 83) 40 rfl w4.heap.size 23 j0 (.slice none 0 0) 1 24 Try.underlying40 hj hy0 hy1 hy2 rfl (by decide) _ pn es rfl (Hk11.out.alloc _) ⟨wa.heap.size, 0, none⟩ 1 1 [.slice (some ⟨bf, of, none⟩) f.enc.length cf] rfl rfl (cell_one_new _ _ _) (slice_oneCell _ _ _) (by unfold maxLen; omega) (by omega) (by simp; omega) ?_; intro v2 wb ho2 hg2 _))
                  have ho1' := kept_of ho1 hg2 (own_ne ho1 Hk11.out (by decide))
                  obtain ⟨a1', c1', rfl, _⟩ := own_form ho1'
                  obtain ⟨a2', c2', rfl, _⟩ := own_form ho2
                  have hba := ((Hbwy.out.alloc hwy _).drew).grown hg1 (by simp; omega) (fun r h => (Ho10k.out.lt r h).1)
                  have hbb := (hba.alloc (by omega) _).grown hg2 (by simp; omega) (fun r h => (Hk11.out.lt r h).1)
                  have hfin : NatS w4 s t (gk - 2) (.slice a1' (pn + 1) c1') (.slice a2' (pn + 1) c2') (.int .i64 ((i + 1 : Nat) : Int)) (.int .i64 ((j + 1 : Nat) : Int)) wb := by
                    have hdc : (p.app (.c (n + m) f .z)).cnt = pn + 1 := by rw [T.app_cnt, Hpn.out]; rfl
                    refine ⟨i + 1, j + 1, p.app (.c (n + m) f .z), d1.app (.c n f .z), q, d2.app (.c m f .z), r, es ++ [.slice (some ⟨bf, of, none⟩) f.enc.length cf], a1', a2', c1', c2', rfl, rfl, by have := Hgk.out; omega, by rw [T.app_assoc]; exact hdd, by rw [T.app_cnt, HU.out.2.1]; rfl, by rw [T.app_assoc]; exact hdd2, by rw [T.app_cnt, HU.out.2.2.2.1]; rfl, by rw [HU.out.2.2.2.2, Hn.out, T.app_assoc]; rfl, by omega, by rw [hdc], by rw [hdc], ⟨?_, ?_, ?_⟩, hbb⟩
                    · rw [hdc, ← ints_snoc]; exact ho1'
                    · rw [hdc]; exact ho2
                    · exact HEp.out.snoc hpE hcf1 hcf2
                  have Hfin := Lib.hid hfin
                  clear ho1 hg1 ho2 hg2 ho1' hba hbb hfin
                  go_wp2_with fail
                  go_roundg (gk - 2)
                  case measure => have := Hgk.out; omega
                  case rel => exact Hfin.out
      case rest =>
        obtain ⟨es, a10, a11, c10, c11, rfl, rfl, ⟨ho10, ho11, hEp⟩, hbw⟩ := hcut
        go_step
        obtain ⟨wz, rfl⟩ : ∃ wz : World, wz = wc := ⟨_, rfl⟩
        obtain ⟨u, hu⟩ : ∃ u, u = T.nat s t := ⟨_, rfl⟩
        rw [← hu] at ho10 ho11 hEp hle3 ⊢
        have Hbz := Lib.hid (Hb4.out.trans (hbw.mono Hb4.out.size))
        have k5 := Lib.hid (l1Make_any a10 a11 u.cnt c10 c11 u wz hle3 (sum_ex ho11 (hEp.below hbw) rfl) (sum_sl ho10 rfl))
        clear ho10 ho11 hEp hbw hu
        go_wp2_with fail
        refine (k5.out).mono ?_
        rintro ee w5 ⟨a3, c3, rfl, ho3, hb5⟩
        have Ho3 := Lib.hid ho3
        have Hb5 := Lib.hid (Hbz.out.trans (hb5.mono Hbz.out.size))
        clear ho3 hb5
        rcases vld_tf u.enc with hv | hv
        · have hf : T.fit u = u.enc := by rw [T.fit, if_pos hv]
          have HF := Lib.hid hf
          have HV := Lib.hid hv
          have k6 := Lib.hid (l2Fit_yes a3 u.enc.length c3 u.enc w5 (Sl.of_own Ho3.out) hv)
          clear hf hv
          go_wp2_with fail
          refine (k6.out).mono ?_
          rintro ee w6 ⟨rfl, hb6⟩
          have hfin : OrdOkPost w u.enc true (.returned (.tuple #[.slice a3 u.enc.length c3, .bool true])) w6 :=
            ⟨a3, c3, rfl, Joins.ownsRow_le (ownsRow_below' Ho3.out hb6) Hbz.out.size, Hb5.out.trans (hb6.mono Hb5.out.size)⟩
          have Hfin := Lib.hid hfin
          clear hb6 hfin
          go_wp2_with fail
          go_ret2
          rw [HF.out, HV.out]
          exact Hfin.out
        · have hf : T.fit u = [] := by rw [T.fit, if_neg (by rw [hv]; simp)]
          have HF := Lib.hid hf
          have HV := Lib.hid hv
          have k6 := Lib.hid (l2Fit_no a3 u.enc.length c3 u.enc w5 (Sl.of_own Ho3.out) hv)
          clear hf hv
          go_wp2_with fail
          refine (k6.out).mono ?_
          rintro ee w6 ⟨a4, rfl, ho4, hb6⟩
          have hfin : OrdOkPost w [] false (.returned (.tuple #[.slice a4 0 0, .bool false])) w6 :=
            ⟨a4, 0, rfl, Joins.ownsRow_le ho4 Hb5.out.size, Hb5.out.trans (hb6.mono Hb5.out.size)⟩
          have Hfin := Lib.hid hfin
          clear ho4 hb6 hfin
          go_wp2_with fail
          go_ret2
          rw [HF.out, HV.out]
          exact Hfin.out
    · obtain ⟨e1, e2⟩ := T.natRow_bad (xs := xs) (.inr h2)
      rw [e1, e2]
      have H2v := Lib.hid h2
      clear hx hy h1 h2 e1 e2
      go_enter Try.func85, Try.ntmps85
      go_wp2_with fail
      refine (k1.out).mono ?_
      rintro ee w1 ⟨rfl, hb1⟩
      have Hb1 := Lib.hid hb1
      have k2 := Lib.hid (spec_valid a2 n2 c2 ys w1 (HY.out.below hb1) H2v.out)
      clear hb1
      go_wp2_with fail
      refine (k2.out).mono ?_
      rintro ee w2 ⟨rfl, hb2⟩
      have Hb2 := Lib.hid (Hb1.out.trans (hb2.mono Hb1.out.size))
      clear hb2
      go_wp2_with fail
      go_ret2
      exact lit_post Hb2.out
  · have k1 := Lib.hid (spec_valid a1 n1 c1 xs w hx h1)
    obtain ⟨e1, e2⟩ := T.natRow_bad (ys := ys) (.inl h1)
    rw [e1, e2]
    clear hx hy h1 e1 e2
    go_enter Try.func85, Try.ntmps85
    go_wp2_with fail
    refine (k1.out).mono ?_
    rintro ee w1 ⟨rfl, hb1⟩
    have Hb1 := Lib.hid hb1
    clear hb1
    go_wp2_with fail
    go_ret2
    exact lit_post Hb1.out

end Go.Proofs.Ytgcdbndnpcfcnaa
