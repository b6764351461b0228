/- The model's OrdAdd. -/
import Derived.Test.YtaleaagnkfbhpabAddS
import Derived.Test.YtaleaagnkfbhpabAddJ
namespace Go.Proofs.Ytaleaagnkfbhpab
open Go.RowKit

theorem l2Fit_yes (a : Option Addr) (n c : Nat) (xs : List Int) (w : World) (h : Sl w a n c xs) (hv : T.vldB xs = true) :
    Calls Try.prog 37 #[.slice a n c] w fun e w' => e = .returned (.tuple #[.slice a n c, .bool true]) ∧ Below w.heap.size w w' := by
  have k1 := Lib.hid (spec_valid a n c xs w h hv)
  clear h hv
  go_enter Try.func37, Try.ntmps37
  go_wp2_with fail
  refine (k1.out).mono ?_
  rintro ee w1 ⟨rfl, hb1⟩
  have Hb1 := Lib.hid hb1
  clear hb1
  go_wp2_with fail
  go_ret2
  exact ⟨rfl, Hb1.out⟩

theorem l2Fit_no (a : Option Addr) (n c : Nat) (xs : List Int) (w : World) (h : Sl w a n c xs) (hv : T.vldB xs = false) :
    Calls Try.prog 37 #[.slice a n c] w fun e w' => ∃ a', e = .returned (.tuple #[.slice a' 0 0, .bool false]) ∧ w'.ownsRow w.heap.size 3 1 (.slice a' 0 0) 0 [] ∧ Below w.heap.size w w' := by
  have k1 := Lib.hid (spec_valid a n c xs w h hv)
  clear h hv
  go_enter Try.func37, Try.ntmps37
  go_wp2_with fail
  refine (k1.out).mono ?_
  rintro ee w1 ⟨rfl, hb1⟩
  have Hb1 := Lib.hid hb1
  clear hb1
  go_wp2_with fail
  go_ret2
  exact ⟨_, rfl, World.ownsRow_lit w1 #[] 0 (by have := Hb1.out.size; omega) (by simp [maxLen]) rfl, Hb1.out.alloc (by have := Hb1.out.size; omega) _⟩

/-- What a bad argument is answered by. -/
theorem lit_post {w w1 : World} (hb : Below w.heap.size w w1) : OrdOkPost w [] false (.returned (.tuple #[.slice (some ⟨w1.heap.size, 0, none⟩) 0 0, .bool false])) (w1.alloc (.cells #[] 3)) :=
  ⟨_, 0, rfl, World.ownsRow_lit w1 #[] 0 (by have := hb.size; omega) (by simp [maxLen]) rfl, hb.alloc (by have := hb.size; omega) _⟩

set_option maxHeartbeats 1000000 in
theorem spec_OrdAdd (a1 a2 : Option Addr) (n1 c1 n2 c2 : Nat) (xs ys : List Int) (w : World) (hx : Sl w a1 n1 c1 xs) (hy : Sl w a2 n2 c2 ys) :
    Calls Try.prog 45 #[.slice a1 n1 c1, .slice a2 n2 c2] w (OrdOkPost w (T.addRow xs ys) (T.addOk xs ys)) := by
  have HX := Lib.hid hx
  have HY := Lib.hid hy
  rcases vld_tf xs with h1 | h1
  · have k1 := Lib.hid (spec_valid a1 n1 c1 xs w hx h1)
    rcases vld_tf ys with h2 | h2
    · obtain ⟨e1, e2⟩ := T.addRow_val h1 h2
      rw [e1, e2]
      obtain ⟨b1, o1, s, rfl, rfl, hs, hos, hat1, hn1, hl1, hp1, hcc1, hm1⟩ := hx.valid h1
      obtain ⟨b2, o2, t, rfl, rfl, ht, hot, hat2, hn2, hl2, hp2, hcc2, hm2⟩ := hy.valid h2
      rw [hos, hot]
      have Hn1 := Lib.hid hn1
      have Hn2 := Lib.hid hn2
      have HA1 := Lib.hid hat1
      have HA2 := Lib.hid hat2
      have HS := Lib.hid hs
      have HT := Lib.hid ht
      have H2v := Lib.hid h2
      obtain ⟨u, hu⟩ : ∃ u, u = T.add s t := ⟨_, rfl⟩
      rw [← hu]
      have Hu := Lib.hid hu
      clear hx hy h1 h2 e1 e2 hos hot hat1 hat2 hs ht hn1 hn2 hu
      go_enter Try.func45, Try.ntmps45
      go_wp2_with fail
      refine (k1.out).mono ?_
      rintro ee w1 ⟨rfl, hb1⟩
      have Hb1 := Lib.hid hb1
      have k2 := Lib.hid (spec_valid (some ⟨b2, o2, none⟩) n2 c2 t.enc w1 (HY.out.below hb1) H2v.out)
      clear hb1
      go_wp2_with fail
      refine (k2.out).mono ?_
      rintro ee w2 ⟨rfl, hb2⟩
      have Hb2 := Lib.hid (Hb1.out.trans (hb2.mono Hb1.out.size))
      have k3 := Lib.hid (l2Add_any b1 o1 n1 c1 b2 o2 n2 c2 s t w2 HS.out HT.out Hn1.out Hn2.out (by omega) (by omega) hcc1 hm1 hcc2 hm2 (HA1.out.below Hb2.out (HA1.out.lt (T.enc_ne s))) (HA2.out.below Hb2.out (HA2.out.lt (T.enc_ne t))))
      rw [← Hu.out] at k3
      clear hb2
      go_wp2_with fail
      refine (k3.out).mono ?_
      rintro ee w3 ⟨a3, c3, rfl, ho3, hb3⟩
      have Ho3 := Lib.hid ho3
      have Hb3 := Lib.hid (Hb2.out.trans (hb3.mono Hb2.out.size))
      clear ho3 hb3
      rcases vld_tf u.enc with hv | hv
      · have hf : T.fit u = u.enc := by rw [T.fit, if_pos hv]
        have HF := Lib.hid hf
        have HV := Lib.hid hv
        have k4 := Lib.hid (l2Fit_yes a3 u.enc.length c3 u.enc w3 (Sl.of_own Ho3.out) hv)
        clear hf hv
        go_wp2_with fail
        refine (k4.out).mono ?_
        rintro ee w4 ⟨rfl, hb4⟩
        have hfin : OrdOkPost w u.enc true (.returned (.tuple #[.slice a3 u.enc.length c3, .bool true])) w4 :=
          ⟨a3, c3, rfl, Joins.ownsRow_le (ownsRow_below' Ho3.out hb4) Hb2.out.size, Hb3.out.trans (hb4.mono Hb3.out.size)⟩
        have Hfin := Lib.hid hfin
        clear hb4 hfin
        go_wp2_with fail
        go_ret2
        rw [HF.out, HV.out]
        exact Hfin.out
      · have hf : T.fit u = [] := by rw [T.fit, if_neg (by rw [hv]; simp)]
        have HF := Lib.hid hf
        have HV := Lib.hid hv
        have k4 := Lib.hid (l2Fit_no a3 u.enc.length c3 u.enc w3 (Sl.of_own Ho3.out) hv)
        clear hf hv
        go_wp2_with fail
        refine (k4.out).mono ?_
        rintro ee w4 ⟨a4, rfl, ho4, hb4⟩
        have hfin : OrdOkPost w [] false (.returned (.tuple #[.slice a4 0 0, .bool false])) w4 :=
          ⟨a4, 0, rfl, Joins.ownsRow_le ho4 Hb3.out.size, Hb3.out.trans (hb4.mono Hb3.out.size)⟩
        have Hfin := Lib.hid hfin
        clear ho4 hb4 hfin
        go_wp2_with fail
        go_ret2
        rw [HF.out, HV.out]
        exact Hfin.out
    · obtain ⟨e1, e2⟩ := T.addRow_bad (xs := xs) (.inr h2)
      rw [e1, e2]
      have H2v := Lib.hid h2
      clear hx hy h1 h2 e1 e2
      go_enter Try.func45, Try.ntmps45
      go_wp2_with fail
      refine (k1.out).mono ?_
      rintro ee w1 ⟨rfl, hb1⟩
      have Hb1 := Lib.hid hb1
      have k2 := Lib.hid (spec_valid a2 n2 c2 ys w1 (HY.out.below hb1) H2v.out)
      clear hb1
      go_wp2_with fail
      refine (k2.out).mono ?_
      rintro ee w2 ⟨rfl, hb2⟩
      have Hb2 := Lib.hid (Hb1.out.trans (hb2.mono Hb1.out.size))
      clear hb2
      go_wp2_with fail
      go_ret2
      exact lit_post Hb2.out
  · have k1 := Lib.hid (spec_valid a1 n1 c1 xs w hx h1)
    obtain ⟨e1, e2⟩ := T.addRow_bad (ys := ys) (.inl h1)
    rw [e1, e2]
    clear hx hy h1 e1 e2
    go_enter Try.func45, Try.ntmps45
    go_wp2_with fail
    refine (k1.out).mono ?_
    rintro ee w1 ⟨rfl, hb1⟩
    have Hb1 := Lib.hid hb1
    clear hb1
    go_wp2_with fail
    go_ret2
    exact lit_post Hb1.out

end Go.Proofs.Ytaleaagnkfbhpab
