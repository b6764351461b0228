/- FnTradesValid: the walk of the law. -/
import Derived.Test.YtgcdbndnpcfcnaaDrawTu
namespace Go.Proofs.Ytgcdbndnpcfcnaa
set_option maxRecDepth 100000
open Go.RowKit

theorem SlT.tail {w : World} {b off n c : Nat} {t : Tr} {tl : List Tr} (h : SlT w (some ⟨b, off, none⟩) n c (t :: tl)) : SlT w (some ⟨b, off + 2, none⟩) (n - 1) (c - 1) tl := by
  obtain ⟨h1, h2, h3, h4⟩ := h
  simp at h1
  refine ⟨by omega, by omega, by omega, fun _ => ?_⟩
  obtain ⟨b', off', e, hat⟩ := h4 (by omega)
  cases e
  refine ⟨b, off + 2, rfl, fun k t' hk => ?_⟩
  obtain ⟨a1, n1, c1, a2, n2, c2, e1, e2, s1, s2⟩ := hat (k + 1) t' (by rw [List.getElem?_cons_succ]; exact hk)
  exact ⟨a1, n1, c1, a2, n2, c2, by rw [← e1]; congr 2; omega, by rw [← e2]; congr 2; omega, s1, s2⟩

theorem T3.bl {ts : List Tr} (h : T3 ts) : ∀ t ∈ ts, t.take.length ≤ 1048576 ∧ t.give.length ≤ 1048576 := fun t ht => by have := h t ht; omega

set_option maxHeartbeats 4000000 in
theorem fnTradesValid_walk (a : Option Addr) (len cap : Nat) (w : World) (h : By w a len cap) :
    Calls Try.prog 4 #[.slice a len cap] w fun e w' => e = .returned (.bool true) ∧ Below w.heap.size w w' := by
  have hlm : len ≤ 9223372036854775807 := by have := h.1; have := h.2.1; unfold maxLen at this; omega
  by_cases hbig : 1048576 < len
  · clear h
    go_enter Try.func4, Try.ntmps4
    go_wp2_with fail
    go_ret
    exact ⟨rfl, Below.refl _ _⟩
  have k0 := Lib.hid (drawTradesValid_any a len cap w h)
  clear h
  go_enter Try.func4, Try.ntmps4
  go_wp2_with fail
  refine (k0.out).mono ?_
  rintro ee w1 ⟨ts, v, n, rfl, hT, h3, hn1, hn5, hb0⟩
  obtain ⟨g, c, rfl, hS⟩ := hT.slT
  have hnc : n ≤ c := hS.2.1
  have hcm : c ≤ 9223372036854775807 := by have := hS.2.2.1; unfold maxLen at this; exact this
  have HS := Lib.hid hS
  have H3 := Lib.hid h3
  have k1 := Lib.hid (impl_TradesValid (some ⟨g, 0, none⟩) n c ts w1 (by omega) h3.bl hS)
  obtain ⟨o, ho⟩ : ∃ o, o = tradesB ts := ⟨_, rfl⟩
  rw [← ho] at k1
  have Ho := Lib.hid ho
  have Hb0 := Lib.hid hb0
  clear ho hS h3 hT hb0
  go_wp2_with fail
  refine (k1.out).mono ?_
  rintro ee w2 ⟨rfl, hb2⟩
  have k2 := Lib.hid (spec_TradesValid (some ⟨g, 0, none⟩) n c ts w2 (by omega) (HS.out.below hb2))
  rw [← Ho.out] at k2
  have HS2 := Lib.hid (HS.out.below hb2)
  have Hb2 := Lib.hid (Hb0.out.trans (hb2.mono Hb0.out.size))
  have hne : (o != o) = false := by simp
  clear hb2
  go_wp2_with fail
  refine (k2.out).mono ?_
  rintro ee w3 ⟨rfl, hb3⟩
  have HS3 := Lib.hid (HS2.out.below hb3)
  have Hb3 := Lib.hid (Hb2.out.trans (hb3.mono Hb2.out.size))
  clear hb3
  cases o with
  | false =>
    have k5 := Lib.hid (impl_TradesValid none 0 0 [] w3 (by omega) (fun _ h => by cases h) ⟨rfl, Nat.le_refl _, Nat.zero_le _, fun h => by omega⟩)
    rw [show tradesB [] = true from rfl] at k5
    go_wp2_with fail
    refine (k5.out).mono ?_
    rintro ee w5 ⟨rfl, hb5⟩
    have Hb5 := Lib.hid (Hb3.out.trans (hb5.mono Hb3.out.size))
    have k6 := Lib.hid (alive_any w5)
    clear hb5
    go_wp2_with fail
    refine (k6.out).mono ?_
    rintro ee w6 ⟨rfl, hb6⟩
    have Hb6 := Lib.hid (Hb5.out.trans (hb6.mono Hb5.out.size))
    clear hb6
    go_wp2_with fail
    go_ret
    exact ⟨rfl, Hb6.out⟩
  | true =>
    obtain ⟨t, tl, rfl⟩ : ∃ t tl, ts = t :: tl := by
      cases ts with
      | nil => have h := HS3.out.1; simp at h; omega
      | cons t tl => exact ⟨t, tl, rfl⟩
    have htl : tradesB tl = true := by
      have h := tradesB_true.1 Ho.out.symm
      exact tradesB_true.2 ⟨by have := h.1; simp at this; omega, fun t' ht' => h.2 t' (List.mem_cons_of_mem _ ht')⟩
    have q1 : (1 : Int) ≤ n := by omega
    have q2 : (1 : Int) ≤ c := by omega
    have k5 := Lib.hid (fun w9 => impl_TradesValid none 0 0 [] w9 (by omega) (fun _ h => by cases h) ⟨rfl, Nat.le_refl _, Nat.zero_le _, fun h => by omega⟩)
    rw [show tradesB [] = true from rfl] at k5
    have k6 := Lib.hid (fun w9 => alive_any w9)
    by_cases hc1 : c = 1
    · subst hc1
      obtain rfl : n = 1 := by omega
      obtain rfl : tl = [] := by have h := HS3.out.1; simpa using h
      have k4 := Lib.hid (impl_TradesValid (some ⟨g, 0, none⟩) 0 0 [] w3 (by omega) (fun _ h => by cases h) ⟨rfl, Nat.le_refl _, Nat.zero_le _, fun h => by omega⟩)
      rw [htl] at k4
      clear htl
      go_wp2_with fail
      refine (k4.out).mono ?_
      rintro ee w4 ⟨rfl, hb4⟩
      have Hb4 := Lib.hid (Hb3.out.trans (hb4.mono Hb3.out.size))
      clear hb4
      go_wp2_with fail
      refine (k5.out w4).mono ?_
      rintro ee w5 ⟨rfl, hb5⟩
      have Hb5 := Lib.hid (Hb4.out.trans (hb5.mono Hb4.out.size))
      clear hb5
      go_wp2_with fail
      refine (k6.out w5).mono ?_
      rintro ee w6 ⟨rfl, hb6⟩
      have Hb6 := Lib.hid (Hb5.out.trans (hb6.mono Hb5.out.size))
      clear hb6
      go_wp2_with fail
      go_ret
      exact ⟨rfl, Hb6.out⟩
    · have k4 := Lib.hid (impl_TradesValid (some ⟨g, 2, none⟩) (n - 1) (c - 1) tl w3 (by omega) (fun t' ht' => H3.out.bl t' (List.mem_cons_of_mem _ ht')) HS3.out.tail)
      rw [htl] at k4
      have q3 : ¬ ((c : Int) = 1) := by omega
      clear htl
      go_wp2_with fail
      refine (k4.out).mono ?_
      rintro ee w4 ⟨rfl, hb4⟩
      have Hb4 := Lib.hid (Hb3.out.trans (hb4.mono Hb3.out.size))
      clear hb4
      go_wp2_with fail
      refine (k5.out w4).mono ?_
      rintro ee w5 ⟨rfl, hb5⟩
      have Hb5 := Lib.hid (Hb4.out.trans (hb5.mono Hb4.out.size))
      clear hb5
      go_wp2_with fail
      refine (k6.out w5).mono ?_
      rintro ee w6 ⟨rfl, hb6⟩
      have Hb6 := Lib.hid (Hb5.out.trans (hb6.mono Hb5.out.size))
      clear hb6
      go_wp2_with fail
      go_ret
      exact ⟨rfl, Hb6.out⟩

end Go.Proofs.Ytgcdbndnpcfcnaa
