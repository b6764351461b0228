/- Slices of rules: which are valid, by the program and by the model. -/
import Derived.Test.YtgcdbndnpcfcnaaTrD
namespace Go.Proofs.Ytgcdbndnpcfcnaa
set_option maxRecDepth 100000
open Go.RowKit

/-- A slice of rules in memory. -/
def SlT (w : World) (ao : Option Addr) (n c : Nat) (ts : List Tr) : Prop :=
  ts.length = n ∧ n ≤ c ∧ c ≤ maxLen ∧ (0 < n → ∃ b off, ao = some ⟨b, off, none⟩ ∧ ∀ k t, ts[k]? = some t → ∃ a1 n1 c1 a2 n2 c2, w.cell? ⟨b, off + k * 2, none⟩ = some (.slice a1 n1 c1) ∧ w.cell? ⟨b, off + k * 2 + 1, none⟩ = some (.slice a2 n2 c2) ∧ Sl w a1 n1 c1 t.take ∧ Sl w a2 n2 c2 t.give)

theorem SlT.below {w w' : World} {ao : Option Addr} {n c : Nat} {ts : List Tr} (h : SlT w ao n c ts) (hb : Below w.heap.size w w') : SlT w' ao n c ts := by
  obtain ⟨h1, h2, h3, h4⟩ := h
  refine ⟨h1, h2, h3, fun hp => ?_⟩
  obtain ⟨b, off, rfl, hat⟩ := h4 hp
  refine ⟨b, off, rfl, fun k t hk => ?_⟩
  obtain ⟨a1, n1, c1, a2, n2, c2, e1, e2, s1, s2⟩ := hat k t hk
  exact ⟨a1, n1, c1, a2, n2, c2, (hb.cell (cell_in e1)).trans e1, (hb.cell (cell_in e2)).trans e2, s1.below hb, s2.below hb⟩


theorem tradesB_tf (ts : List Tr) : tradesB ts = true ∨ tradesB ts = false := by cases tradesB ts <;> simp

set_option maxHeartbeats 1000000 in
theorem spec_TradesValid (ao : Option Addr) (n c : Nat) (ts : List Tr) (w : World) (hb : n ≤ 1048576) (h : SlT w ao n c ts) :
    Calls Try.prog 19 #[.slice ao n c] w fun e w' => e = .returned (.bool (tradesB ts)) ∧ Below w.heap.size w w' := by
  have Hl := Lib.hid h.1
  have H := Lib.hid h
  obtain ⟨o, ho⟩ : ∃ o, o = tradesB ts := ⟨_, rfl⟩
  rw [← ho]
  have Ho := Lib.hid ho
  clear h ho
  go_enter Try.func19, Try.ntmps19
  go_wp2_with fail
  go_loopw [3] (fun i wr => ∃ (k : Nat), k ≤ n ∧ i = .int .i64 k ∧ Hid (∀ j t, j < k → ts[j]? = some t → tradeB t = true) ∧ Below w.heap.size w wr) (fun i _ => n - (intOf i).toNat)
  case atStart => exact ⟨0, Nat.zero_le _, rfl, fun j t hj => by omega, Below.refl _ _⟩
  case round =>
    obtain ⟨k, hk, rfl, HE, hbel⟩ := hrel
    by_cases hlt : k < n
    · obtain ⟨t, ht⟩ : ∃ t, ts[k]? = some t := ⟨ts[k]'(by rw [Hl.out]; exact hlt), List.getElem?_eq_getElem _⟩
      obtain ⟨b, off, rfl, hat⟩ := (H.out.below hbel).2.2.2 (by omega)
      obtain ⟨a1, n1, c1, a2, n2, c2, e1, e2, s1, s2⟩ := hat k t ht
      have kT := Lib.hid (sTradeValid_any a1 a2 n1 c1 n2 c2 t wr s1 s2)
      have Hbel := Lib.hid hbel
      rcases (show tradeB t = true ∨ tradeB t = false by cases tradeB t <;> simp) with hv | hv
      · rw [hv] at kT
        have HV := Lib.hid hv
        have Ht := Lib.hid ht
        clear ht s1 s2 hat hv hbel
        go_wp2_with fail
        refine (kT.out).mono ?_
        rintro ee w2 ⟨rfl, hb2⟩
        have Hb2 := Lib.hid (Hbel.out.trans (hb2.mono Hbel.out.size))
        clear hb2
        go_wp2_with fail
        go_roundw
        case rel =>
          refine ⟨k + 1, by omega, by go_num, fun j t' hj ht' => ?_, Hb2.out⟩
          by_cases hjk : j = k
          · subst hjk
            have h9 := Ht.out.symm.trans ht'
            cases h9
            exact HV.out
          · exact HE.out j t' (by omega) ht'
        case measure => simp [intOf]; omega
      · rw [hv] at kT
        have hoF : o = false := by rw [Ho.out]; exact tradesB_at ht hv
        subst hoF
        clear ht s1 s2 hat hv hbel
        go_wp2_with fail
        refine (kT.out).mono ?_
        rintro ee w2 ⟨rfl, hb2⟩
        have Hb2 := Lib.hid (Hbel.out.trans (hb2.mono Hbel.out.size))
        clear hb2
        go_wp2_with fail
        go_ret
        exact ⟨rfl, Hb2.out⟩
    · obtain rfl : k = n := by omega
      have Hbel := Lib.hid hbel
      clear hbel
      by_cases h4 : k ≤ 4
      · have hoT : o = true := by rw [Ho.out]; exact tradesB_all (by rw [Hl.out]; exact h4) (fun j t hj => HE.out j t (by rw [← Hl.out]; exact (List.getElem?_eq_some_iff.1 hj).1) hj)
        subst hoT
        have h4' : (k : Int) ≤ 4 := by omega
        go_wp2_with fail
        go_ret
        exact ⟨by simp <;> omega, Hbel.out⟩
      · have hoF : o = false := by rw [Ho.out]; exact tradesB_long (by rw [Hl.out]; exact h4)
        subst hoF
        have h4' : ¬ (k : Int) ≤ 4 := by omega
        go_wp2_with fail
        go_ret
        exact ⟨by simp <;> omega, Hbel.out⟩

set_option maxHeartbeats 1000000 in
theorem impl_TradesValid (ao : Option Addr) (n c : Nat) (ts : List Tr) (w : World) (hb : n ≤ 1048576) (hbl : ∀ t ∈ ts, t.take.length ≤ 1048576 ∧ t.give.length ≤ 1048576) (h : SlT w ao n c ts) :
    Calls Try.prog 18 #[.slice ao n c] w fun e w' => e = .returned (.bool (tradesB ts)) ∧ Below w.heap.size w w' := by
  have Hl := Lib.hid h.1
  have H := Lib.hid h
  have HBL := Lib.hid hbl
  obtain ⟨o, ho⟩ : ∃ o, o = tradesB ts := ⟨_, rfl⟩
  rw [← ho]
  have Ho := Lib.hid ho
  clear h ho hbl
  by_cases h4 : n ≤ 4
  · go_enter Try.func18, Try.ntmps18
    go_wp2_with fail
    go_loopg [10] n (fun gk i wr => ∃ (k : Nat), gk + k = n ∧ i = .int .i64 k ∧ Hid (∀ j t, j < k → ts[j]? = some t → tradeB t = true) ∧ Below w.heap.size w wr)
    case atStart => exact ⟨0, rfl, rfl, fun j t hj => by omega, Below.refl _ _⟩
    case round =>
      obtain ⟨k, hgk, rfl, HE, hbel⟩ := hrel
      have Hgk := Lib.hid hgk
      have hk : k ≤ n := by omega
      clear hgk
      by_cases hlt : k < n
      · obtain ⟨t, ht⟩ : ∃ t, ts[k]? = some t := ⟨ts[k]'(by rw [Hl.out]; exact hlt), List.getElem?_eq_getElem _⟩
        obtain ⟨b, off, rfl, hat⟩ := (H.out.below hbel).2.2.2 (by omega)
        obtain ⟨a1, n1, c1, a2, n2, c2, e1, e2, s1, s2⟩ := hat k t ht
        have hm := HBL.out t (List.mem_of_getElem? ht)
        obtain ⟨W, hW, hB, hbW, hsW⟩ := box_two wr (.slice a1 n1 c1) (.slice a2 n2 c2) 25
        have kT := Lib.hid (iTradeValid_any a1 a2 n1 c1 n2 c2 t W (by rw [← s1.1]; omega) (by rw [← s2.1]; omega) (s1.below hbW) (s2.below hbW))
        have y0 := hB.c0
        have y1 := hB.c1
        have Hbel := Lib.hid (hbel.trans (hbW.mono hbel.size))
        rcases (show tradeB t = true ∨ tradeB t = false by cases tradeB t <;> simp) with hv | hv
        · rw [hv] at kT
          have HV := Lib.hid hv
          have Ht := Lib.hid ht
          clear ht s1 s2 hat hv hbel hm hB hbW hsW
          go_wp2_with fail
          refine (kT.out).mono ?_
          rintro ee w2 ⟨rfl, hb2⟩
          have Hb2 := Lib.hid (Hbel.out.trans (hb2.mono Hbel.out.size))
          clear hb2 y0 y1
          go_wp2_with fail
          go_roundg (gk - 1)
          case measure => have := Hgk.out; omega
          case rel =>
            refine ⟨k + 1, by have := Hgk.out; omega, by go_num, fun j t' hj ht' => ?_, Hb2.out⟩
            by_cases hjk : j = k
            · subst hjk
              have h9 := Ht.out.symm.trans ht'
              cases h9
              exact HV.out
            · exact HE.out j t' (by omega) ht'
        · rw [hv] at kT
          have hoF : o = false := by rw [Ho.out]; exact tradesB_at ht hv
          subst hoF
          clear ht s1 s2 hat hv hbel hm hB hbW hsW
          go_wp2_with fail
          refine (kT.out).mono ?_
          rintro ee w2 ⟨rfl, hb2⟩
          have Hb2 := Lib.hid (Hbel.out.trans (hb2.mono Hbel.out.size))
          clear hb2 y0 y1
          go_wp2_with fail
          go_ret
          exact ⟨rfl, Hb2.out⟩
      · obtain rfl : k = n := by omega
        have Hbel := Lib.hid hbel
        have hoT : o = true := by rw [Ho.out]; exact tradesB_all (by rw [Hl.out]; exact h4) (fun j t hj => HE.out j t (by rw [← Hl.out]; exact (List.getElem?_eq_some_iff.1 hj).1) hj)
        subst hoT
        clear hbel
        go_wp2_with fail
        go_ret
        exact ⟨rfl, Hbel.out⟩
  · have hoF : o = false := by rw [Ho.out]; exact tradesB_long (by rw [Hl.out]; exact h4)
    subst hoF
    have h4' : (4 : Int) < n := by omega
    go_enter Try.func18, Try.ntmps18
    go_wp2_with fail
    go_ret
    exact ⟨rfl, Below.refl _ _⟩

end Go.Proofs.Ytgcdbndnpcfcnaa
