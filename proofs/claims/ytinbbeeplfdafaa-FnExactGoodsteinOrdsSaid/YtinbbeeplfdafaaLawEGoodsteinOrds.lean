/- FnExactGoodsteinOrds: the walk of the law. -/
import Derived.Test.YtinbbeeplfdafaaBaseW
namespace Go.Proofs.Ytinbbeeplfdafaa
open Go.RowKit

theorem bnd {a : Int} (h : (Lit.int .i64 a).wf = true) : -9223372036854775808 ≤ a ∧ a ≤ 9223372036854775807 := by
  simpa [Lit.wf, IntKind.min, IntKind.max, IntKind.signed, IntKind.bits] using h

theorem T.goodOrds_len : ∀ (xs : List Int) (b : Int), (T.goodOrds xs b).length ≤ xs.length ∧ ∀ t ∈ T.goodOrds xs b, t.enc.length ≤ 60 := by
  intro xs
  induction xs with
  | nil => intro b; exact ⟨Nat.le_refl _, fun t h => by cases h⟩
  | cons x xs ih =>
    intro b
    by_cases h : T.baseRow x b = []
    · rw [T.goodOrds_stop h]; exact ⟨Nat.zero_le _, fun t h => by cases h⟩
    · rw [T.goodOrds_go h]
      obtain ⟨h1, h2⟩ := ih (b + 1)
      refine ⟨by simp only [List.length_cons]; omega, fun t ht => ?_⟩
      rcases List.mem_cons.1 ht with rfl | ht
      · exact (T.vldB_true.1 (T.baseRow_enc h).2.2).1
      · exact h2 t ht

set_option maxHeartbeats 1000000 in
theorem exactGoodsteinOrds_walk (n : Int) (w : World) (hn0 : -9223372036854775808 ≤ n) (hn1 : n ≤ 9223372036854775807) :
    Calls Try.prog 8 #[.int .i64 n] w fun e w' => e = .returned (.bool true) ∧ Below w.heap.size w w' := by
  have k1 := Lib.hid (spec_GoodsteinOrds n w hn0 hn1)
  have k2 := Lib.hid (fun w => impl_GoodsteinOrds n w hn0 hn1)
  obtain ⟨hl1, hl2⟩ := T.goodOrds_len (T.goodRun n) 2
  have hl3 := T.goodRun_cnt n
  obtain ⟨r, hr⟩ : ∃ r, r = T.goodOrds (T.goodRun n) 2 := ⟨_, rfl⟩
  rw [← hr] at k1 k2 hl1 hl2
  unfold GoPost at k1
  unfold GoPostI at k2
  obtain ⟨xss, hx⟩ : ∃ xss, xss = r.map T.enc := ⟨_, rfl⟩
  obtain ⟨N, hN⟩ : ∃ N, N = r.length := ⟨_, rfl⟩
  have hN60 : N ≤ 60 := by omega
  have hNx : N = xss.length := by rw [hx, List.length_map, hN]
  have hV : ∀ t ∈ xss, t.length ≤ 60 := fun t ht => by
    rw [hx] at ht
    obtain ⟨u, hu, rfl⟩ := List.mem_map.1 ht
    exact hl2 u hu
  have htb : tot xss ≤ 3600 := by have h1 := tot_le hV; omega
  unfold RowsT at k1 k2
  rw [← hx, ← hN] at k1 k2
  obtain ⟨tx, htx⟩ : ∃ tx, tx = tot xss := ⟨_, rfl⟩
  rw [← htx] at htb
  have HNx := Lib.hid hNx
  have HV := Lib.hid hV
  have Htx := Lib.hid htx
  clear hl1 hl2 hl3 hr hx hN hNx hV htx
  go_enter Try.func8, Try.ntmps8
  go_wp2_with fail
  refine (k1.out).mono ?_
  rintro ee w1 ⟨a1, n1, c1, us, rfl, hn1', ho1, hr1, hb1⟩
  subst hn1'
  have Ho1 := Lib.hid ho1
  have Hr1 := Lib.hid hr1
  have Hb1 := Lib.hid hb1
  clear ho1 hb1 hr1
  go_wp2_with fail
  refine (k2.out _).mono ?_
  rintro ee w2 ⟨a2, n2, c2, vs, rfl, hn2', ho2, hr2, hb2, U, hU⟩
  subst hn2'
  have Ho2 := Lib.hid ho2
  have Hr2 := Lib.hid hr2
  have HU := Lib.hid hU
  have Hb2 := Lib.hid hb2
  have k3 := Lib.hid (eqIntSS_same a2 a1 n2 c2 c1 _ _ _ _ vs us xss w2 ho2 hr2 (ownsRow_below' Ho1.out hb2) (Hr1.out.below hb2) HNx.out (by omega) HV.out)
  clear ho2 hb2 hr2 hU
  go_wp2_with fail
  refine (k3.out).mono ?_
  rintro ee w3 ⟨rfl, hb3⟩
  have Ho2b := Lib.hid (ownsRow_below' Ho2.out hb3)
  have Hr2b := Lib.hid (Hr2.out.below hb3)
  have Hb3 := Lib.hid (Hb2.out.trans (hb3.mono Hb2.out.size))
  have k4 := Lib.hid (markIntSS_any a2 n2 c2 _ w1.heap.size U vs xss 1 w3 Ho2b.out Hr2b.out HU.out HNx.out (by omega) HV.out (by omega) (by omega))
  clear hb3
  rw [← Htx.out] at k4
  go_wp2_with fail
  refine (k4.out).mono ?_
  rintro ee w4 ⟨rfl, ho4, hr4, hb4⟩
  have Ho4 := Lib.hid ho4
  have Hr4 := Lib.hid hr4
  have Hb4 := Lib.hid (Hb3.out.trans hb4)
  have k5 := Lib.hid (heldIntSS_any a2 n2 c2 _ _ vs xss 1 w4 ho4 hr4 HNx.out (by omega) HV.out (by omega) (by omega))
  rw [← Htx.out] at k5
  have hge : ¬ ((1 : Int) + tx < 0) := by omega
  have hne : (((1 : Int) + tx) != ((1 : Int) + tx)) = false := by simp
  clear ho4 hb4 hr4
  go_wp2_with fail
  refine (k5.out).mono ?_
  rintro ee w5 ⟨rfl, hb5⟩
  have Ho5 := Lib.hid (ownsRow_below' Ho4.out hb5)
  have Hr5 := Lib.hid (Hr4.out.below hb5)
  have Hb5 := Lib.hid (Hb4.out.trans (hb5.mono Hb4.out.size))
  clear hb5
  go_wp2_with fail
  refine (k2.out _).mono ?_
  rintro ee w6 ⟨a3, n3, c3, ws, rfl, hn3', ho6, hr6, hb6, _, _⟩
  subst hn3'
  have Ho6 := Lib.hid (ownsRow_below' Ho5.out hb6)
  have Hr6 := Lib.hid (Hr5.out.below hb6)
  have Hb6 := Lib.hid (Hb5.out.trans (hb6.mono Hb5.out.size))
  have k6 := Lib.hid (eqIntSS_same a3 a1 n3 c3 c1 _ _ _ _ ws us xss w6 ho6 hr6 (ownsRow_below' Ho1.out Hb6.out) (Hr1.out.below Hb6.out) HNx.out (by omega) HV.out)
  clear ho6 hb6 hr6
  go_wp2_with fail
  refine (k6.out).mono ?_
  rintro ee w7 ⟨rfl, hb7⟩
  have Ho7 := Lib.hid (ownsRow_below' Ho6.out hb7)
  have Hr7 := Lib.hid (Hr6.out.below hb7)
  have Hb7 := Lib.hid (Hb6.out.trans (hb7.mono Hb6.out.size))
  have k7 := Lib.hid (heldIntSS_any a2 n3 c2 _ _ vs xss 1 w7 Ho7.out Hr7.out HNx.out (by omega) HV.out (by omega) (by omega))
  rw [← Htx.out] at k7
  clear hb7
  go_wp2_with fail
  refine (k7.out).mono ?_
  rintro ee w8 ⟨rfl, hb8⟩
  have Hb8 := Lib.hid (Hb7.out.trans (hb8.mono Hb7.out.size))
  clear hb8
  go_wp2_with fail
  go_ret
  exact ⟨rfl, Hb1.out.trans (Hb8.out.mono Hb1.out.size)⟩

end Go.Proofs.Ytinbbeeplfdafaa
