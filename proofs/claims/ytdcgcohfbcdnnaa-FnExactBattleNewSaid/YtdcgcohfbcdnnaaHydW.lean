/- HydraRun and HydraFight of the program and of the model. -/
import Derived.Test.YtdcgcohfbcdnnaaHydU
import Derived.Test.YtdcgcohfbcdnnaaHydC
import Derived.Test.YtdcgcohfbcdnnaaHydL
namespace Go.Proofs.Ytdcgcohfbcdnnaa
set_option maxRecDepth 100000
open Go.RowKit

/-- What the loops of HydraRun keep. -/
def RunRel (w : World) (n : Int) (xs hs : List Int) (v : Value) (i : Nat) (wr : World) : Prop :=
  ∃ (a : Option Addr) (c : Nat) (now : List Int), v = .slice a now.length c ∧ H.runR n xs hs = H.runR n now (hs.drop i) ∧ now.length ≤ 1000 ∧ wr.ownsRow w.heap.size 3 1 (.slice a now.length c) now.length (ints now) ∧ Below w.heap.size w wr

theorem run_step {n : Int} {xs hs now : List Int} {i : Nat} {x : Int} (h : H.runR n xs hs = H.runR n now (hs.drop i)) (hi : i < hs.length) (hx : x = hs.getD i 0) :
    H.runR n xs hs = if H.cutOkB now x n = true then H.runR n (H.cutRow now x n) (hs.drop (i + 1)) else none := by
  rw [h, List.drop_eq_getElem_cons hi, H.runR]
  have : hs[i] = x := by rw [hx]; simp [hi]
  rw [this]

theorem run_end {w wr : World} {n : Int} {xs hs : List Int} {v : Value} {i : Nat} (h : RunRel w n xs hs v i wr) (hi : hs.length ≤ i) (h1 : H.hvB xs = true) (h2 : 1 ≤ n ∧ n ≤ 9) (h3 : hs.length ≤ 400) :
    OrdOkPost w (H.runRow xs hs n) (H.runOkB xs hs n) (.returned (.tuple #[v, .bool true])) wr := by
  obtain ⟨a, c, now, rfl, he, hl, ho, hb⟩ := h
  rw [List.drop_of_length_le hi, H.runR] at he
  have hok : H.runOkB xs hs n = true := by rw [H.run_ok h1 h2 h3, he]; rfl
  have hrow : H.runRow xs hs n = now := by rw [H.runRow, if_pos hok, he]; rfl
  rw [hok, hrow]
  exact ⟨a, c, rfl, ho, hb⟩

theorem run_none {xs hs : List Int} {n : Int} (h1 : H.hvB xs = true) (h2 : 1 ≤ n ∧ n ≤ 9) (h3 : hs.length ≤ 400) (he : H.runR n xs hs = none) : H.runOkB xs hs n = false := by rw [H.run_ok h1 h2 h3, he]; rfl

theorem clone_any (ao : Option Addr) (len cap : Nat) (xs : List Int) (w : World) (h : Sl w ao len cap xs) (hl : len ≤ 1000000) :
    Calls Try.prog 57 #[.slice ao len cap] w fun e w' => ∃ a c, e = .returned (.slice a len c) ∧ w'.ownsRow w.heap.size 3 1 (.slice a len c) len (ints xs) ∧ Below w.heap.size w w' := by
  obtain ⟨h1, h2, h3, h4⟩ := h
  rcases Nat.eq_zero_or_pos len with hz | hp
  · subst hz
    have hx : xs = [] := List.eq_nil_of_length_eq_zero h1
    subst hx
    cases ao with
    | none =>
      refine (Try.slices_Clone_int_nil 0 cap w).mono ?_
      rintro e w' ⟨rfl, rfl⟩
      exact ⟨none, 0, rfl, World.ownsRow_nil _ _ _ _, Below.refl _ _⟩
    | some a =>
      refine (Try.slices_Clone_int_zero a cap w).mono ?_
      rintro e w' ⟨v, rfl, ho, _, hb⟩
      obtain ⟨a', c', rfl, _⟩ := own_form ho
      exact ⟨a', c', rfl, ho, hb⟩
  · obtain ⟨b, off, rfl, hat⟩ := h4 hp
    refine (Try.slices_Clone_int b off len cap xs w (by omega) (by omega) hat).mono ?_
    rintro e w' ⟨v, rfl, ho, _, hb⟩
    rw [List.take_of_length_le (by omega)] at ho
    obtain ⟨a', c', rfl, _⟩ := own_form ho
    exact ⟨a', c', rfl, ho, hb⟩

set_option maxHeartbeats 4000000 in
theorem impl_HydraRun (a1 : Option Addr) (n1 c1 : Nat) (xs : List Int) (a2 : Option Addr) (n2 c2 : Nat) (hs : List Int) (n : Int) (w : World) (h : Sl w a1 n1 c1 xs) (h' : Sl w a2 n2 c2 hs) :
    Calls Try.prog 19 #[.slice a1 n1 c1, .slice a2 n2 c2, .int .i64 n] w (OrdOkPost w (H.runRow xs hs n) (H.runOkB xs hs n)) := by
  have k1 := Lib.hid (impl_HydraValid a1 n1 c1 xs w h)
  have k2 := Lib.hid (isCopies_any n w)
  have hl2 : hs.length = n2 := h'.1
  have hn2c : n2 ≤ c2 := h'.2.1
  have hc2 : c2 ≤ 9223372036854775807 := h'.2.2.1
  rcases H.hv_tf xs with hv | hv
  · rw [hv] at k1
    by_cases hn : 1 ≤ n ∧ n ≤ 9
    · rw [decide_eq_true hn] at k2
      by_cases h4 : n2 ≤ 400
      · have hlx := H.hv_len hv
        have hl1 : n1 = xs.length := h.1.symm
        have k3 := Lib.hid (clone_any a1 n1 c1 xs w h (by omega))
        have H2 := Lib.hid h'
        have HV := Lib.hid hv
        have HN := Lib.hid hn
        have HL := Lib.hid hl2
        have H1 := Lib.hid hl1
        clear h h' hv hl1 hlx hl2
        go_enter Try.func19, Try.ntmps19
        go_wp2_with fail
        refine (k1.out).mono ?_
        rintro ee w' ⟨rfl, rfl⟩
        go_wp2_with fail
        refine (k2.out).mono ?_
        rintro ee w' ⟨rfl, rfl⟩
        go_wp2_with fail
        refine (k3.out).mono ?_
        rintro ee w3 ⟨a3, c3, rfl, ho3, hb3⟩
        have Hst := Lib.hid (show RunRel w n xs hs (.slice a3 n1 c3) 0 w3 from by
          refine ⟨a3, c3, xs, by rw [H1.out], rfl, by have := (H.hv_len HV.out).2; omega, ?_, hb3⟩
          rw [← H1.out]; exact ho3)
        clear ho3 hb3
        go_wp2_with fail
        go_loopw [8, 30] (fun v8 v30 wr => ∃ i : Nat, i ≤ n2 ∧ v30 = .int .i64 i ∧ RunRel w n xs hs v8 i wr) (fun _ v30 _ => n2 - (intOf v30).toNat)
        case atStart => exact ⟨0, Nat.zero_le _, rfl, Hst.out⟩
        case round =>
          obtain ⟨i, hi, rfl, hR⟩ := hrel
          by_cases hlt : i < n2
          · obtain ⟨a, c, now, rfl, he, hl, ho, hbr⟩ := hR
            obtain ⟨b, off, rfl, hat⟩ := H2.out.2.2.2 (by omega)
            obtain ⟨x, hx⟩ : ∃ x, x = hs.getD i 0 := ⟨_, rfl⟩
            have hc := ((hat.below hbr (hat.lt (by intro e; have := HL.out; rw [e] at this; simp at this; omega))) i (by rw [HL.out]; exact hlt))
            rw [← hx] at hc
            have hst := run_step he (by rw [HL.out]; exact hlt) hx
            have kc := Lib.hid (impl_HydraCut a now.length c now x n wr (Sl.of_own ho))
            unfold OrdOkPost at kc
            have Hbr := Lib.hid hbr
            cases hq : H.cutOkB now x n with
            | true =>
              rw [hq] at kc
              rw [if_pos hq] at hst
              obtain ⟨r, hr⟩ : ∃ r, r = H.cutRow now x n := ⟨_, rfl⟩
              have hrl : r.length ≤ 1000 := by rw [hr]; exact H.cutRow_len now x n
              rw [← hr] at kc hst
              have Hst2 := Lib.hid hst
              clear he hl ho hbr hat hx hst hq hr
              go_wp2_with fail
              refine (kc.out).mono ?_
              rintro ee w4 ⟨a4, c4, rfl, ho4, hb4⟩
              have HR := Lib.hid (show RunRel w n xs hs (.slice a4 r.length c4) (i + 1) w4 from ⟨a4, c4, r, rfl, Hst2.out, hrl, Joins.ownsRow_le ho4 Hbr.out.size, Hbr.out.trans (hb4.mono Hbr.out.size)⟩)
              clear ho4 hb4
              go_wp2_with fail
              go_roundw
              case rel => exact ⟨i + 1, by omega, by go_num, HR.out⟩
              case measure => simp [intOf]; omega
            | false =>
              rw [hq, H.cut_no hq] at kc
              rw [if_neg (by rw [hq]; simp)] at hst
              have hoB := run_none HV.out HN.out (by rw [HL.out]; exact h4) hst
              have Hfin := Lib.hid (fun (w4 : World) (hb4 : Below wr.heap.size wr w4) => show OrdOkPost w (H.runRow xs hs n) (H.runOkB xs hs n) (.returned (.tuple #[.slice none 0 0, .bool false])) w4 from by
                rw [hoB, H.run_no hoB]
                exact OrdOkPost.nil (nil_own _ _) (Hbr.out.trans (hb4.mono Hbr.out.size)))
              clear he hl ho hbr hat hx hst hq hoB
              go_wp2_with fail
              refine (kc.out).mono ?_
              rintro ee w4 ⟨a4, c4, rfl, ho4, hb4⟩
              have Hf := Lib.hid (Hfin.out w4 hb4)
              clear ho4 hb4
              go_wp2_with fail
              go_ret2
              exact Hf.out
          · obtain rfl : i = n2 := by omega
            have Hf := Lib.hid (run_end hR (by rw [HL.out]; exact Nat.le_refl _) HV.out HN.out (by rw [HL.out]; exact h4))
            obtain ⟨a, c, now, rfl, _⟩ := hR
            go_wp2_with fail
            go_ret2
            exact Hf.out
      · have hq : H.runOkB xs hs n = false := H.run_bad (fun h5 => h4 (by rw [← hl2]; exact h5.2.2))
        rw [H.run_no hq, hq]
        clear h h' hv hl2 hq
        go_enter Try.func19, Try.ntmps19
        go_wp2_with fail
        refine (k1.out).mono ?_
        rintro ee w' ⟨rfl, rfl⟩
        go_wp2_with fail
        refine (k2.out).mono ?_
        rintro ee w' ⟨rfl, rfl⟩
        go_wp2_with fail
        go_ret2
        exact OrdOkPost.nil (nil_own _ _) (Below.refl _ _)
    · have hq : H.runOkB xs hs n = false := H.run_bad (fun h5 => hn h5.2.1)
      rw [decide_eq_false hn] at k2
      rw [H.run_no hq, hq]
      clear h h' hv hl2 hq
      go_enter Try.func19, Try.ntmps19
      go_wp2_with fail
      refine (k1.out).mono ?_
      rintro ee w' ⟨rfl, rfl⟩
      go_wp2_with fail
      refine (k2.out).mono ?_
      rintro ee w' ⟨rfl, rfl⟩
      go_wp2_with fail
      go_ret2
      exact OrdOkPost.nil (nil_own _ _) (Below.refl _ _)
  · have hq : H.runOkB xs hs n = false := H.run_bad (fun h5 => by rw [hv] at h5; exact absurd h5.1 (by simp))
    rw [hv] at k1
    rw [H.run_no hq, hq]
    clear h h' hv hl2 hq
    go_enter Try.func19, Try.ntmps19
    go_wp2_with fail
    refine (k1.out).mono ?_
    rintro ee w' ⟨rfl, rfl⟩
    go_wp2_with fail
    go_ret2
    exact OrdOkPost.nil (nil_own _ _) (Below.refl _ _)

set_option maxHeartbeats 4000000 in
theorem spec_HydraRun (a1 : Option Addr) (n1 c1 : Nat) (xs : List Int) (a2 : Option Addr) (n2 c2 : Nat) (hs : List Int) (n : Int) (w : World) (h : Sl w a1 n1 c1 xs) (h' : Sl w a2 n2 c2 hs) :
    Calls Try.prog 18 #[.slice a1 n1 c1, .slice a2 n2 c2, .int .i64 n] w (OrdOkPost w (H.runRow xs hs n) (H.runOkB xs hs n)) := by
  obtain ⟨i0, hi, hz0, hz1, hz2⟩ := info_parts info_int
  have k1 := Lib.hid (spec_HydraValid a1 n1 c1 xs w h)
  have hl2 : hs.length = n2 := h'.1
  have hn2c : n2 ≤ c2 := h'.2.1
  have hc2 : c2 ≤ 9223372036854775807 := h'.2.2.1
  have hnil := Lib.hid (show OrdOkPost w [] false (.returned (.tuple #[.slice (some ⟨w.heap.size, 0, none⟩) 0 0, .bool false])) (w.alloc (.cells #[] 3)) from
    OrdOkPost.nil (World.ownsRow_lit w #[] 0 (Nat.le_refl _) (by simp [maxLen]) rfl) ((Below.refl _ _).alloc (Nat.le_refl _) _))
  rcases H.hv_tf xs with hv | hv
  · rw [hv] at k1
    by_cases h4 : n2 ≤ 400
    · by_cases hn : 1 ≤ n ∧ n ≤ 9
      · have k2 := Lib.hid (l1In_yes n 1 9 w hn.1 hn.2)
        have hlx := H.hv_len hv
        have hl1 : n1 = xs.length := h.1.symm
        obtain ⟨b1, off1, rfl, hat1⟩ := h.2.2.2 (by omega)
        have HLx := Lib.hid (show (ints xs).length = n1 * 1 by rw [ints_len, h.1]; omega)
        have HNx := Lib.hid (show ∀ j u, (ints xs)[j]? = some u → (w.alloc (.cells #[] 3)).cell? ((⟨b1, off1, none⟩ : Addr).add j) = some u by
          intro j u hj
          have hjl := (List.getElem?_eq_some_iff.1 hj).1
          rw [ints_len] at hjl
          rw [ints_get xs j hjl] at hj
          cases hj
          rw [Addr.add_lit, ((Below.refl w.heap.size w).alloc (Nat.le_refl _) (.cells #[] 3)).cell (hat1.lt (by intro h; rw [h] at hjl; simp at hjl))]
          exact hat1 j hjl)
        have HO := Lib.hid (World.ownsRow_lit (base := w.heap.size) (e := 3) (size := 1) w #[] 0 (Nat.le_refl _) (by simp [maxLen]) rfl)
        have H2 := Lib.hid h'
        have HV := Lib.hid hv
        have HN := Lib.hid hn
        have HL := Lib.hid hl2
        have H1 := Lib.hid hl1
        have hn160 : n1 ≤ 60 := by omega
        clear h h' hv hl1 hlx hl2 hat1 hnil
        go_enter Try.func18, Try.ntmps18
        go_wp2_with fail
        refine (k1.out).mono ?_
        rintro ee w' ⟨rfl, rfl⟩
        go_wp2_with fail
        refine (k2.out).mono ?_
        rintro ee w' ⟨rfl, rfl⟩
        go_wp2_with (first
          | (at_builtin; refine wpList_append_own _ rfl (.tmp 26) (.tmp 27) 22 rfl w.heap.size 3 i0 (.int .i64 0) 1 8 Try.underlying22 hi hz0 hz1 hz2 rfl (by decide) _ 0 [] rfl HO.out ⟨b1, off1, none⟩ n1 c1 (ints xs) rfl HLx.out HNx.out (ints_oneCell _ xs) (by unfold maxLen; omega) (by omega) (by simp) ?_; intro v3 w3 ho3 hg3 _))
        obtain ⟨a3, c3, rfl, _⟩ := own_form ho3
        have Hst := Lib.hid (show RunRel w n xs hs (.slice a3 n1 c3) 0 w3 from by
          have e1 : 0 + n1 = xs.length := by rw [H1.out]; omega
          have e2 : n1 = xs.length := H1.out
          rw [e1] at ho3
          rw [e2]
          refine ⟨a3, c3, xs, rfl, rfl, by have := (H.hv_len HV.out).2; omega, by simpa using ho3, ((Below.refl w.heap.size w).alloc (Nat.le_refl _) _).grown hg3 (by simp) (fun r e => (HO.out.lt r e).1)⟩)
        clear ho3 hg3
        simp only [Nat.zero_add]
        go_wp2_with fail
        go_loopw [8, 9] (fun v8 v9 wr => ∃ i : Nat, i ≤ n2 ∧ v9 = .int .i64 i ∧ RunRel w n xs hs v8 i wr) (fun _ v9 _ => n2 - (intOf v9).toNat)
        case atStart => exact ⟨0, Nat.zero_le _, rfl, Hst.out⟩
        case round =>
          obtain ⟨i, hi', rfl, hR⟩ := hrel
          by_cases hlt : i < n2
          · obtain ⟨a, c, now, rfl, he, hl, ho, hbr⟩ := hR
            obtain ⟨b, off, rfl, hat⟩ := H2.out.2.2.2 (by omega)
            obtain ⟨x, hx⟩ : ∃ x, x = hs.getD i 0 := ⟨_, rfl⟩
            have hc := ((hat.below hbr (hat.lt (by intro e; have := HL.out; rw [e] at this; simp at this; omega))) i (by rw [HL.out]; exact hlt))
            rw [← hx] at hc
            have hst := run_step he (by rw [HL.out]; exact hlt) hx
            have kc := Lib.hid (spec_HydraCut a now.length c now x n wr (Sl.of_own ho))
            unfold OrdOkPost at kc
            have Hbr := Lib.hid hbr
            cases hq : H.cutOkB now x n with
            | true =>
              rw [hq] at kc
              rw [if_pos hq] at hst
              obtain ⟨r, hr⟩ : ∃ r, r = H.cutRow now x n := ⟨_, rfl⟩
              have hrl : r.length ≤ 1000 := by rw [hr]; exact H.cutRow_len now x n
              rw [← hr] at kc hst
              have Hst2 := Lib.hid hst
              clear he hl ho hbr hat hx hst hq hr
              go_wp2_with fail
              refine (kc.out).mono ?_
              rintro ee w4 ⟨a4, c4, rfl, ho4, hb4⟩
              have HR := Lib.hid (show RunRel w n xs hs (.slice a4 r.length c4) (i + 1) w4 from ⟨a4, c4, r, rfl, Hst2.out, hrl, Joins.ownsRow_le ho4 Hbr.out.size, Hbr.out.trans (hb4.mono Hbr.out.size)⟩)
              clear ho4 hb4
              go_wp2_with fail
              go_roundw
              case rel => exact ⟨i + 1, by omega, by go_num, HR.out⟩
              case measure => simp [intOf]; omega
            | false =>
              rw [hq, H.cut_no hq] at kc
              rw [if_neg (by rw [hq]; simp)] at hst
              have hoB := run_none HV.out HN.out (by rw [HL.out]; exact h4) hst
              have Hfin := Lib.hid (fun (w4 : World) (hb4 : Below wr.heap.size wr w4) => show OrdOkPost w (H.runRow xs hs n) (H.runOkB xs hs n) (.returned (.tuple #[.slice (some ⟨w4.heap.size, 0, none⟩) 0 0, .bool false])) (w4.alloc (.cells #[] 3)) from by
                rw [hoB, H.run_no hoB]
                have hbb := Hbr.out.trans (hb4.mono Hbr.out.size)
                exact OrdOkPost.nil (World.ownsRow_lit w4 #[] 0 hbb.size (by simp [maxLen]) rfl) (hbb.alloc hbb.size _))
              clear he hl ho hbr hat hx hst hq hoB
              go_wp2_with fail
              refine (kc.out).mono ?_
              rintro ee w4 ⟨a4, c4, rfl, ho4, hb4⟩
              have Hf := Lib.hid (Hfin.out w4 hb4)
              clear ho4 hb4
              go_wp2_with fail
              go_ret2
              exact Hf.out
          · obtain rfl : i = n2 := by omega
            have Hf := Lib.hid (run_end hR (by rw [HL.out]; exact Nat.le_refl _) HV.out HN.out (by rw [HL.out]; exact h4))
            obtain ⟨a, c, now, rfl, _⟩ := hR
            go_wp2_with fail
            go_ret2
            exact Hf.out
      · have k2 := Lib.hid (l1In_no n 1 9 w (by omega))
        have hq : H.runOkB xs hs n = false := H.run_bad (fun h5 => hn h5.2.1)
        rw [H.run_no hq, hq]
        have Hn := Lib.hid hnil.out
        clear h h' hv hl2 hq hnil
        go_enter Try.func18, Try.ntmps18
        go_wp2_with fail
        refine (k1.out).mono ?_
        rintro ee w' ⟨rfl, rfl⟩
        go_wp2_with fail
        refine (k2.out).mono ?_
        rintro ee w' ⟨rfl, rfl⟩
        go_wp2_with fail
        go_ret2
        exact Hn.out
    · have hq : H.runOkB xs hs n = false := H.run_bad (fun h5 => h4 (by rw [← hl2]; exact h5.2.2))
      rw [H.run_no hq, hq]
      have Hn := Lib.hid hnil.out
      clear h h' hv hl2 hq hnil
      go_enter Try.func18, Try.ntmps18
      go_wp2_with fail
      refine (k1.out).mono ?_
      rintro ee w' ⟨rfl, rfl⟩
      go_wp2_with fail
      go_ret2
      exact Hn.out
  · have hq : H.runOkB xs hs n = false := H.run_bad (fun h5 => by rw [hv] at h5; exact absurd h5.1 (by simp))
    rw [hv] at k1
    rw [H.run_no hq, hq]
    have Hn := Lib.hid hnil.out
    clear h h' hv hl2 hq hnil
    go_enter Try.func18, Try.ntmps18
    go_wp2_with fail
    refine (k1.out).mono ?_
    rintro ee w' ⟨rfl, rfl⟩
    go_wp2_with fail
    go_ret2
    exact Hn.out

/-- What the loops of HydraFight keep. -/
def FightRel (w : World) (n : Int) (R : Int) (v : Value) (i : Nat) (wr : World) : Prop :=
  ∃ (a : Option Addr) (l c : Nat) (now : List Int), v = .slice a l c ∧ R = H.fightI n (401 - i) i now ∧ H.hvB now = true ∧ Sl wr a l c now ∧ Below w.heap.size w wr

theorem fight_go {n R : Int} {now : List Int} {i : Nat} (h : R = H.fightI n (401 - i) i now) (hi : i < 401) :
    R = if H.headsRow now = 0 then (i : Int) else if H.cutOkB now (H.headsRow now - 1) n = true then H.fightI n (401 - (i + 1)) (i + 1) (H.cutRow now (H.headsRow now - 1) n) else -1 := by
  rw [h, show 401 - i = (401 - (i + 1)) + 1 by omega, H.fightI]

set_option maxHeartbeats 4000000 in
theorem impl_HydraFight (a1 : Option Addr) (n1 c1 : Nat) (xs : List Int) (n : Int) (w : World) (h : Sl w a1 n1 c1 xs) :
    Calls Try.prog 21 #[.slice a1 n1 c1, .int .i64 n] w fun e w' => e = .returned (.int .i64 (H.fightRow xs n)) ∧ Below w.heap.size w w' := by
  have k1 := Lib.hid (impl_HydraValid a1 n1 c1 xs w h)
  rcases H.hv_tf xs with hv | hv
  · rw [hv] at k1
    by_cases hn : 1 ≤ n ∧ n ≤ 9
    · have hrow : H.fightRow xs n = H.fightI n 401 0 xs := by rw [H.fightRow, if_pos ⟨hv, hn.1, hn.2⟩]
      rw [hrow]
      obtain ⟨R, hRR⟩ : ∃ R, R = H.fightI n 401 0 xs := ⟨_, rfl⟩
      rw [← hRR]
      have k2 := Lib.hid (isCopies_any n w)
      rw [decide_eq_true hn] at k2
      have Hst := Lib.hid (show FightRel w n R (.slice a1 n1 c1) 0 w from ⟨a1, n1, c1, xs, rfl, by rw [Nat.sub_zero]; exact hRR, hv, h, Below.refl _ _⟩)
      clear h hv hrow hRR
      go_enter Try.func21, Try.ntmps21
      go_wp2_with fail
      refine (k1.out).mono ?_
      rintro ee w' ⟨rfl, rfl⟩
      go_wp2_with fail
      refine (k2.out).mono ?_
      rintro ee w' ⟨rfl, rfl⟩
      go_wp2_with fail
      go_loopw [5, 19] (fun v5 v19 wr => ∃ i : Nat, i ≤ 401 ∧ v19 = .int .i64 i ∧ FightRel w n R v5 i wr) (fun _ v19 _ => 401 - (intOf v19).toNat)
      case atStart => exact ⟨0, Nat.zero_le _, rfl, Hst.out⟩
      case round =>
        obtain ⟨i, hi, rfl, hR⟩ := hrel
        by_cases hlt : i < 401
        · obtain ⟨a, l, c, now, rfl, he, hvn, hsl, hbr⟩ := hR
          have hgo := fight_go he hlt
          have hln := H.hv_len hvn
          have hll : now.length = l := hsl.1
          have hlc : l ≤ c ∧ c ≤ 9223372036854775807 := ⟨hsl.2.1, hsl.2.2.1⟩
          have hone := H.heads_one hvn
          have hfact := H.heads_facts hvn
          have kh := Lib.hid (impl_HydraHeads a l c now wr hsl)
          obtain ⟨q, hq⟩ : ∃ q, q = H.headsRow now := ⟨_, rfl⟩
          rw [← hq] at kh hgo hone hfact
          have hq0 : 0 ≤ q ∧ q ≤ 60 := by omega
          have kc := Lib.hid (impl_HydraCut a l c now (q - 1) n wr hsl)
          unfold OrdOkPost at kc
          have Hbr := Lib.hid hbr
          by_cases hz : q = 0
          · rw [if_pos hz] at hgo
            have Hgo := Lib.hid hgo
            clear he hvn hsl hbr hgo hln hll hone hfact hq kc
            subst hz

            go_wp2_with fail
            refine (kh.out).mono ?_
            rintro ee w4 ⟨rfl, rfl⟩
            go_wp2_with fail
            go_ret
            exact ⟨ret_int (by rw [Hgo.out]), Hbr.out⟩
          · rw [if_neg hz] at hgo
            have hl1 : ¬ ((l : Int) = 1) := by omega
            have hl1n : ¬ (l = 1) := by omega
            cases hc : H.cutOkB now (q - 1) n with
            | true =>
              rw [hc] at kc
              rw [if_pos hc] at hgo
              have hv2 := H.cut_hv hc
              obtain ⟨r, hr⟩ : ∃ r, r = H.cutRow now (q - 1) n := ⟨_, rfl⟩
              have hrl : r.length ≤ 1000 := by rw [hr]; exact H.cutRow_len now (q - 1) n
              rw [← hr] at kc hgo hv2
              have Hgo := Lib.hid hgo
              have Hv2 := Lib.hid hv2
              clear he hvn hsl hbr hln hll hone hfact hq hc hr hgo hv2
              go_wp2_with fail
              refine (kh.out).mono ?_
              rintro ee w4 ⟨rfl, rfl⟩
              go_wp2_with fail
              refine (kc.out).mono ?_
              rintro ee w4 ⟨a4, c4, rfl, ho4, hb4⟩
              have HR := Lib.hid (show FightRel w n R (.slice a4 r.length c4) (i + 1) w4 from ⟨a4, r.length, c4, r, rfl, Hgo.out, Hv2.out, Sl.of_own ho4, Hbr.out.trans (hb4.mono Hbr.out.size)⟩)
              clear ho4 hb4
              go_wp2_with fail
              go_roundw
              case rel => exact ⟨i + 1, by omega, by go_num, HR.out⟩
              case measure => simp [intOf]; omega
            | false =>
              rw [hc, H.cut_no hc] at kc
              rw [if_neg (by rw [hc]; simp)] at hgo
              have Hgo := Lib.hid hgo
              clear he hvn hsl hbr hln hll hone hfact hq hc hgo
              go_wp2_with fail
              refine (kh.out).mono ?_
              rintro ee w4 ⟨rfl, rfl⟩
              go_wp2_with fail
              refine (kc.out).mono ?_
              rintro ee w4 ⟨a4, c4, rfl, ho4, hb4⟩
              have Hb4 := Lib.hid (Hbr.out.trans (hb4.mono Hbr.out.size))
              clear ho4 hb4
              go_wp2_with fail
              go_ret
              exact ⟨ret_int (by rw [Hgo.out]), Hb4.out⟩
        · obtain rfl : i = 401 := by omega
          obtain ⟨a, l, c, now, rfl, he, hvn, hsl, hbr⟩ := hR
          have hgo : R = -1 := by rw [he, Nat.sub_self]; rfl
          have Hgo := Lib.hid hgo
          clear he hvn hsl hgo
          go_wp2_with fail
          go_ret
          exact ⟨ret_int (by rw [Hgo.out]), hbr⟩
    · rw [H.fightRow, if_neg (fun h' => hn h'.2)]
      have k2 := Lib.hid (isCopies_any n w)
      rw [decide_eq_false hn] at k2
      clear h hv
      go_enter Try.func21, Try.ntmps21
      go_wp2_with fail
      refine (k1.out).mono ?_
      rintro ee w' ⟨rfl, rfl⟩
      go_wp2_with fail
      refine (k2.out).mono ?_
      rintro ee w' ⟨rfl, rfl⟩
      go_wp2_with fail
      go_ret
      exact ⟨rfl, Below.refl _ _⟩
  · rw [H.fightRow, if_neg (fun h' => by rw [hv] at h'; exact absurd h'.1 (by simp))]
    rw [hv] at k1
    clear h hv
    go_enter Try.func21, Try.ntmps21
    go_wp2_with fail
    refine (k1.out).mono ?_
    rintro ee w' ⟨rfl, rfl⟩
    go_wp2_with fail
    go_ret
    exact ⟨rfl, Below.refl _ _⟩

set_option maxHeartbeats 4000000 in
theorem spec_HydraFight (a1 : Option Addr) (n1 c1 : Nat) (xs : List Int) (n : Int) (w : World) (h : Sl w a1 n1 c1 xs) :
    Calls Try.prog 20 #[.slice a1 n1 c1, .int .i64 n] w fun e w' => e = .returned (.int .i64 (H.fightRow xs n)) ∧ Below w.heap.size w w' := by
  have k1 := Lib.hid (spec_HydraValid a1 n1 c1 xs w h)
  rcases H.hv_tf xs with hv | hv
  · rw [hv] at k1
    by_cases hn : 1 ≤ n ∧ n ≤ 9
    · have hrow : H.fightRow xs n = H.fightI n 401 0 xs := by rw [H.fightRow, if_pos ⟨hv, hn.1, hn.2⟩]
      rw [hrow]
      obtain ⟨R, hRR⟩ : ∃ R, R = H.fightI n 401 0 xs := ⟨_, rfl⟩
      rw [← hRR]
      have k2 := Lib.hid (l1In_yes n 1 9 w hn.1 hn.2)
      have Hst := Lib.hid (show FightRel w n R (.slice a1 n1 c1) 0 w from ⟨a1, n1, c1, xs, rfl, by rw [Nat.sub_zero]; exact hRR, hv, h, Below.refl _ _⟩)
      clear h hv hrow hRR
      go_enter Try.func20, Try.ntmps20
      go_wp2_with fail
      refine (k1.out).mono ?_
      rintro ee w' ⟨rfl, rfl⟩
      go_wp2_with fail
      refine (k2.out).mono ?_
      rintro ee w' ⟨rfl, rfl⟩
      go_wp2_with fail
      go_loopw [0, 5] (fun v0 v5 wr => ∃ i : Nat, i ≤ 401 ∧ v5 = .int .i64 i ∧ FightRel w n R v0 i wr) (fun _ v5 _ => 401 - (intOf v5).toNat)
      case atStart => exact ⟨0, Nat.zero_le _, rfl, Hst.out⟩
      case round =>
        obtain ⟨i, hi, rfl, hR⟩ := hrel
        by_cases hlt : i < 401
        · obtain ⟨a, l, c, now, rfl, he, hvn, hsl, hbr⟩ := hR
          have hgo := fight_go he hlt
          have hln := H.hv_len hvn
          have hll : now.length = l := hsl.1
          have hlc : l ≤ c ∧ c ≤ 9223372036854775807 := ⟨hsl.2.1, hsl.2.2.1⟩
          have hone := H.heads_one hvn
          have hfact := H.heads_facts hvn
          have kh := Lib.hid (spec_HydraHeads a l c now wr hsl)
          obtain ⟨q, hq⟩ : ∃ q, q = H.headsRow now := ⟨_, rfl⟩
          rw [← hq] at kh hgo hone hfact
          have hq0 : 0 ≤ q ∧ q ≤ 60 := by omega
          have kc := Lib.hid (spec_HydraCut a l c now (q - 1) n wr hsl)
          unfold OrdOkPost at kc
          have Hbr := Lib.hid hbr
          by_cases hz : q = 0
          · rw [if_pos hz] at hgo
            have hl1 : l = 1 := by omega
            have Hgo := Lib.hid hgo
            clear he hvn hsl hbr hgo hln hll hone hfact hq kc
            subst hz
            subst hl1
            go_wp2_with fail



            go_ret
            exact ⟨ret_int (by rw [Hgo.out]), Hbr.out⟩
          · rw [if_neg hz] at hgo
            have hl1 : ¬ ((l : Int) = 1) := by omega
            have hl1n : ¬ (l = 1) := by omega
            cases hc : H.cutOkB now (q - 1) n with
            | true =>
              rw [hc] at kc
              rw [if_pos hc] at hgo
              have hv2 := H.cut_hv hc
              obtain ⟨r, hr⟩ : ∃ r, r = H.cutRow now (q - 1) n := ⟨_, rfl⟩
              have hrl : r.length ≤ 1000 := by rw [hr]; exact H.cutRow_len now (q - 1) n
              rw [← hr] at kc hgo hv2
              have Hgo := Lib.hid hgo
              have Hv2 := Lib.hid hv2
              clear he hvn hsl hbr hln hll hone hfact hq hc hr hgo hv2
              go_wp2_with fail
              refine (kh.out).mono ?_
              rintro ee w4 ⟨rfl, rfl⟩
              go_wp2_with fail
              refine (kc.out).mono ?_
              rintro ee w4 ⟨a4, c4, rfl, ho4, hb4⟩
              have HR := Lib.hid (show FightRel w n R (.slice a4 r.length c4) (i + 1) w4 from ⟨a4, r.length, c4, r, rfl, Hgo.out, Hv2.out, Sl.of_own ho4, Hbr.out.trans (hb4.mono Hbr.out.size)⟩)
              clear ho4 hb4
              go_wp2_with fail
              go_roundw
              case rel => exact ⟨i + 1, by omega, by go_num, HR.out⟩
              case measure => simp [intOf]; omega
            | false =>
              rw [hc, H.cut_no hc] at kc
              rw [if_neg (by rw [hc]; simp)] at hgo
              have Hgo := Lib.hid hgo
              clear he hvn hsl hbr hln hll hone hfact hq hc hgo
              go_wp2_with fail
              refine (kh.out).mono ?_
              rintro ee w4 ⟨rfl, rfl⟩
              go_wp2_with fail
              refine (kc.out).mono ?_
              rintro ee w4 ⟨a4, c4, rfl, ho4, hb4⟩
              have Hb4 := Lib.hid (Hbr.out.trans (hb4.mono Hbr.out.size))
              clear ho4 hb4
              go_wp2_with fail
              go_ret
              exact ⟨ret_int (by rw [Hgo.out]), Hb4.out⟩
        · obtain rfl : i = 401 := by omega
          obtain ⟨a, l, c, now, rfl, he, hvn, hsl, hbr⟩ := hR
          have hgo : R = -1 := by rw [he, Nat.sub_self]; rfl
          have Hgo := Lib.hid hgo
          clear he hvn hsl hgo
          go_wp2_with fail
          go_ret
          exact ⟨ret_int (by rw [Hgo.out]), hbr⟩
    · rw [H.fightRow, if_neg (fun h' => hn h'.2)]
      have k2 := Lib.hid (l1In_no n 1 9 w (by omega))
      clear h hv
      go_enter Try.func20, Try.ntmps20
      go_wp2_with fail
      refine (k1.out).mono ?_
      rintro ee w' ⟨rfl, rfl⟩
      go_wp2_with fail
      refine (k2.out).mono ?_
      rintro ee w' ⟨rfl, rfl⟩
      go_wp2_with fail
      go_ret
      exact ⟨rfl, Below.refl _ _⟩
  · rw [H.fightRow, if_neg (fun h' => by rw [hv] at h'; exact absurd h'.1 (by simp))]
    rw [hv] at k1
    clear h hv
    go_enter Try.func20, Try.ntmps20
    go_wp2_with fail
    refine (k1.out).mono ?_
    rintro ee w' ⟨rfl, rfl⟩
    go_wp2_with fail
    go_ret
    exact ⟨rfl, Below.refl _ _⟩

end Go.Proofs.Ytdcgcohfbcdnnaa
