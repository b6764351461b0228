/- OrdKind: the program's and the model's answers. -/
import Derived.Test.YthalogciiochfaaFn2
namespace Go.Proofs.Ythalogciiochfaa
set_option maxRecDepth 100000
open Go.RowKit

theorem kindOf_any (b off n cap : Nat) (t : T) (w : World) (hn : n = t.enc.length) (hb : n ≤ 1000000000000) (hc : n ≤ cap) (hm : cap ≤ maxLen) (hat : At w b off t.enc) :
    Calls Try.prog 77 #[.slice (some ⟨b, off, none⟩) n cap] w fun e w' => e = .returned (.int .i64 t.kind) ∧ Below w.heap.size w w' := by
  have k2 := Lib.hid (termsOf_any b off n cap t.enc t w hn.symm hb hc hm hat rfl)
  have hcl : t.cnt ≤ 1000000000000 := by have := T.cnt_le t; have := T.enc_len t; omega
  clear hn hat
  go_enter Try.func77, Try.ntmps77
  go_wp2_with fail
  refine (k2.out).mono ?_
  rintro ee w2 ⟨cs, rfl, ho, hT, hb2⟩
  have Hb2 := Lib.hid hb2
  obtain ⟨g, hg⟩ : ∃ g, g = w.heap.size := ⟨_, rfl⟩
  rw [← hg] at ho ⊢
  have Hg := Lib.hid hg
  clear hb2 hg
  by_cases hz : t.cnt = 0
  · have hk : t.kind = 0 := by rw [T.cnt_zero hz]; rfl
    have Hk := Lib.hid hk
    have h0 : ((t.cnt : Int) == 0) = true := by rw [hz]; rfl
    clear hz hk
    go_wp2_with fail
    go_ret
    exact ⟨ret_int Hk.out.symm, Hb2.out⟩
  · obtain ⟨d, m, e, hd1, hd2⟩ := T.last_of t (by omega)
    have hk : t.kind = if e.cnt = 0 then 1 else 2 := by rw [hd1, T.kind_app]
    have h0 : ((t.cnt : Int) == 0) = false := by simpa using hz
    obtain ⟨be, oe, ce, p1, p2, p3, p4, p5⟩ := hT.pick (d := d) (k := d.cnt) hd1.symm rfl
    have hdc : t.cnt - 1 = d.cnt := by omega
    have x2 : w2.cell? ⟨g, (t.cnt - 1) * 2 + 1, none⟩ = some (.slice (some ⟨be, oe, none⟩) e.enc.length ce) := by
      rw [ho.cellAt _ (by omega), hdc, Nat.mul_comm]; exact p2
    have k3 := Lib.hid (isZero_any be oe e.enc.length ce (e.cnt : Int) w2 (by rw [T.enc_len]; omega) p3.head)
    have hge : 1 ≤ t.cnt := by omega
    have HK := Lib.hid hk
    clear p1 p2 p3 ho hT hd1 hd2 hdc hz hk
    by_cases he : e.cnt = 0
    · have h3 : ((e.cnt : Int) == 0) = true := by rw [he]; rfl
      have He := Lib.hid he
      clear he
      go_wp2_with fail
      refine (k3.out).mono ?_
      rintro ee w' ⟨rfl, rfl⟩
      go_wp2_with fail
      go_ret
      exact ⟨ret_int (by rw [HK.out, if_pos He.out]), Hb2.out⟩
    · have h3 : ((e.cnt : Int) == 0) = false := by simpa using he
      have He := Lib.hid he
      clear he
      go_wp2_with fail
      refine (k3.out).mono ?_
      rintro ee w' ⟨rfl, rfl⟩
      go_wp2_with fail
      go_ret
      exact ⟨ret_int (by rw [HK.out, if_neg He.out]), Hb2.out⟩
theorem impl_OrdKind (ao : Option Addr) (len cap : Nat) (xs : List Int) (w : World) (h : Sl w ao len cap xs) :
    Calls Try.prog 44 #[.slice ao len cap] w fun e w' => e = .returned (.int .i64 (T.kindRow xs)) ∧ Below w.heap.size w w' := by
  rcases vld_tf xs with h1 | h1
  · have k1 := Lib.hid (impl_valid ao len cap xs w h h1)
    obtain ⟨b, off, t, rfl, rfl, hs, hos, hat, hn, hl, hp, hc, hm⟩ := h.valid h1
    have hr : T.kindRow t.enc = t.kind := by rw [T.kindRow, if_pos h1, hos]
    rw [hr]
    have HA := Lib.hid hat
    have HN := Lib.hid hn
    clear h1 hos hs hat hn hr
    go_enter Try.func44, Try.ntmps44
    go_wp2_with fail
    refine (k1.out).mono ?_
    rintro ee w1 ⟨rfl, hb1⟩
    have Hb1 := Lib.hid hb1
    have k2 := Lib.hid (kindOf_any b off len cap t w1 HN.out (by omega) hc hm (HA.out.below hb1 (HA.out.lt (T.enc_ne t))))
    clear hb1
    go_wp2_with fail
    refine (k2.out).mono ?_
    rintro ee w2 ⟨rfl, hb2⟩
    have Hb2 := Lib.hid (Hb1.out.trans (hb2.mono Hb1.out.size))
    clear hb2
    go_wp2_with fail
    go_ret
    exact ⟨rfl, Hb2.out⟩
  · have k1 := Lib.hid (impl_valid ao len cap xs w h h1)
    have hr : T.kindRow xs = -1 := by rw [T.kindRow, if_neg (by rw [h1]; simp)]
    rw [hr]
    clear h1 hr
    go_enter Try.func44, Try.ntmps44
    go_wp2_with fail
    refine (k1.out).mono ?_
    rintro ee w1 ⟨rfl, hb1⟩
    have Hb1 := Lib.hid hb1
    clear hb1
    go_wp2_with fail
    go_ret
    exact ⟨rfl, Hb1.out⟩

theorem spec_OrdKind (ao : Option Addr) (len cap : Nat) (xs : List Int) (w : World) (h : Sl w ao len cap xs) :
    Calls Try.prog 50 #[.slice ao len cap] w fun e w' => e = .returned (.int .i64 (T.kindRow xs)) ∧ Below w.heap.size w w' := by
  rcases vld_tf xs with h1 | h1
  · have k1 := Lib.hid (spec_valid ao len cap xs w h h1)
    obtain ⟨b, off, t, rfl, rfl, hs, hos, hat, hn, hl, hp, hc, hm⟩ := h.valid h1
    have hr : T.kindRow t.enc = t.kind := by rw [T.kindRow, if_pos h1, hos]
    rw [hr]
    have HA := Lib.hid hat
    have HN := Lib.hid hn
    have hcl : t.cnt ≤ 60 := by have := T.cnt_le t; have := T.enc_len t; omega
    clear h1 hos hs hat hn hr
    go_enter Try.func50, Try.ntmps50
    go_wp2_with fail
    refine (k1.out).mono ?_
    rintro ee w1 ⟨rfl, hb1⟩
    have Hb1 := Lib.hid hb1
    have k2 := Lib.hid (l1Terms_any b off len cap t.enc t w1 HN.out.symm (by omega) hc hm (HA.out.below hb1 (HA.out.lt (T.enc_ne t))) rfl)
    clear hb1
    go_wp2_with fail
    refine (k2.out).mono ?_
    rintro ee w2 ⟨v1, v2, es, rfl, ho1, ho2, hE, _, hb2⟩
    have Hb2 := Lib.hid (Hb1.out.trans (hb2.mono Hb1.out.size))
    clear hb2
    obtain ⟨a1, c1, rfl, o1⟩ := own_form ho1
    obtain ⟨a2, c2, rfl, o2⟩ := own_form ho2
    have O2 := Lib.hid o2
    clear o1 o2 ho1 ho2
    by_cases hz : t.cnt = 0
    · have hk : t.kind = 0 := by rw [T.cnt_zero hz]; rfl
      have Hk := Lib.hid hk
      have h0 : ((t.cnt : Int) == 0) = true := by rw [hz]; rfl
      clear hz hk
      go_wp2_with fail
      go_ret
      exact ⟨ret_int Hk.out.symm, Hb2.out⟩
    · obtain ⟨d, n, e, hd1, hd2⟩ := T.last_of t (by omega)
      have hk : t.kind = if e.cnt = 0 then 1 else 2 := by rw [hd1, T.kind_app]
      have h0 : ((t.cnt : Int) == 0) = false := by simpa using hz
      obtain ⟨g2, rfl, hlt2, r2⟩ := O2.out (by omega)
      obtain ⟨be, oe, ce, p2, p3, p4, p5⟩ := hE.pick (d := d) (k := d.cnt) hd1.symm rfl
      have hdc : t.cnt - 1 = d.cnt := by omega
      have x2 : w2.cell? ⟨g2, t.cnt - 1, none⟩ = some (.slice (some ⟨be, oe, none⟩) e.enc.length ce) := by
        rw [r2 _ (by omega), hdc]; exact p2
      have hge : 1 ≤ t.cnt := by omega
      have hee := T.enc_len e
      have hbl := T.cnt_le e
      have Hk := Lib.hid hk
      by_cases he : e.cnt = 0
      · have h3 : ((e.enc.length : Int) == 1) = true := by rw [T.cnt_zero he]; rfl
        have He := Lib.hid he
        clear he p2 p3 r2 hE hd1 hd2 hdc hz hk hee hbl
        go_wp2_with fail
        go_ret
        exact ⟨ret_int (by rw [Hk.out, if_pos He.out]), Hb2.out⟩
      · have h3 : ((e.enc.length : Int) == 1) = false := by simp; omega
        have He := Lib.hid he
        clear he p2 p3 r2 hE hd1 hd2 hdc hz hk hee hbl
        go_wp2_with fail
        go_ret
        exact ⟨ret_int (by rw [Hk.out, if_neg He.out]), Hb2.out⟩
  · have k1 := Lib.hid (spec_valid ao len cap xs w h h1)
    have hr : T.kindRow xs = -1 := by rw [T.kindRow, if_neg (by rw [h1]; simp)]
    rw [hr]
    clear h1 hr
    go_enter Try.func50, Try.ntmps50
    go_wp2_with fail
    refine (k1.out).mono ?_
    rintro ee w1 ⟨rfl, hb1⟩
    have Hb1 := Lib.hid hb1
    clear hb1
    go_wp2_with fail
    go_ret
    exact ⟨rfl, Hb1.out⟩

end Go.Proofs.Ythalogciiochfaa
