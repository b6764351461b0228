/- Exchanges in memory: which rules and heaps are valid, by the program and by the model. -/
import Derived.Test.YtgcdbndnpcfcnaaTrM
import Derived.Deep.LoopGhost
namespace Go.Proofs.Ytgcdbndnpcfcnaa
set_option maxRecDepth 100000
open Go.RowKit

theorem isOfHeaps_any (ao : Option Addr) (n c : Nat) (xs : List Int) (m : Int) (w : World) (hb : n ≤ 1000000000000) (h : Sl w ao n c xs) :
    Calls Try.prog 52 #[.slice ao n c, .int .i64 m] w fun e w' => e = .returned (.bool (listB m xs)) ∧ w = w' := by
  have Hl := Lib.hid h.1
  by_cases h1 : n = 3
  · have k1 := Lib.hid (allUpTo_any ao n c xs m w hb h)
    rw [listB_in (by rw [Hl.out]; exact h1)]
    subst h1
    clear h
    go_enter Try.func52, Try.ntmps52
    go_wp2_with fail
    refine (k1.out).mono ?_
    rintro ee wx ⟨rfl, rfl⟩
    go_wp2_with fail
    go_ret
    exact ⟨rfl, rfl⟩
  · have h1' : ((n : Int) == 3) = false := by simp; omega
    rw [listB_len (by rw [Hl.out]; exact h1)]
    clear h h1
    go_enter Try.func52, Try.ntmps52
    go_wp2_with fail
    go_ret
    exact ⟨rfl, rfl⟩

theorem impl_HeapsValid (ao : Option Addr) (n c : Nat) (xs : List Int) (w : World) (hb : n ≤ 1000000000000) (h : Sl w ao n c xs) :
    Calls Try.prog 21 #[.slice ao n c] w fun e w' => e = .returned (.bool (listB 40 xs)) ∧ w = w' := by
  have k1 := Lib.hid (isOfHeaps_any ao n c xs 40 w hb h)
  obtain ⟨r, hr⟩ : ∃ r, r = listB 40 xs := ⟨_, rfl⟩
  rw [← hr] at k1 ⊢
  clear h hr
  go_enter Try.func21, Try.ntmps21
  go_wp2_with fail
  refine (k1.out).mono ?_
  rintro ee wx ⟨rfl, rfl⟩
  go_wp2_with fail
  go_ret
  exact ⟨rfl, rfl⟩

set_option maxHeartbeats 1000000 in
theorem l8List_any (ao : Option Addr) (n c : Nat) (xs : List Int) (m : Int) (w : World) (h : Sl w ao n c xs) :
    Calls Try.prog 53 #[.slice ao n c, .int .i64 m] w fun e w' => e = .returned (.bool (listB m xs)) ∧ w = w' := by
  have hn9 : n ≤ 9223372036854775807 := by have h2 := h.2.1; have h3 := h.2.2.1; unfold maxLen at h3; omega
  obtain ⟨x1, x2, x3, x4⟩ := h
  have X1 := Lib.hid x1
  have X4 := Lib.hid x4
  obtain ⟨o, ho⟩ : ∃ o, o = listB m xs := ⟨_, rfl⟩
  rw [← ho]
  have Ho := Lib.hid ho
  clear x1 x2 x3 x4 ho
  go_enter Try.func53, Try.ntmps53
  go_wp2_with fail
  go_loopw [5] (fun i wr => ∃ (k : Nat), k ≤ n ∧ i = .int .i64 k ∧ Hid (∀ j, j < k → 0 ≤ xs.getD j 0 ∧ xs.getD j 0 ≤ m) ∧ w = wr) (fun i _ => n - (intOf i).toNat)
  case atStart => exact ⟨0, Nat.zero_le _, rfl, fun j hj => by omega, rfl⟩
  case round =>
    obtain ⟨k, hk, rfl, HE, rfl⟩ := hrel
    by_cases hlt : k < n
    · obtain ⟨b, off, rfl, hat⟩ := X4.out (by omega)
      have hkx : k < xs.length := by rw [X1.out]; exact hlt
      have hx : w.cell? ⟨b, off + k, none⟩ = some (.int .i64 (xs.getD k 0)) := hat k hkx
      obtain ⟨x, hxe⟩ : ∃ x, x = xs.getD k 0 := ⟨_, rfl⟩
      rw [← hxe] at hx
      have Hx := Lib.hid hxe
      have Hkx := Lib.hid hkx
      clear hkx hxe
      by_cases hx0 : x < 0 ∨ m < x
      · have hoF : o = false := by rw [Ho.out]; exact listB_up (upTo_at Hkx.out (by rw [← Hx.out]; exact hx0))
        subst hoF
        have ci := Lib.hid (l1In_no x 0 m w hx0)
        clear hx0
        go_wp2_with fail
        refine (ci.out).mono ?_
        rintro ee wx ⟨rfl, rfl⟩
        go_wp2_with fail
        go_ret
        exact ⟨rfl, rfl⟩
      · have ci := Lib.hid (l1In_yes x 0 m w (by omega) (by omega))
        have Hx0 := Lib.hid (show 0 ≤ x ∧ x ≤ m by omega)
        clear hx0
        go_wp2_with fail
        refine (ci.out).mono ?_
        rintro ee wx ⟨rfl, rfl⟩
        go_wp2_with fail
        go_roundw
        case rel =>
          refine ⟨k + 1, by omega, by go_num, fun j hj => ?_, by trivial⟩
          by_cases hjk : j = k
          · subst hjk; rw [← Hx.out]; exact Hx0.out
          · exact HE.out j (by omega)
        case measure => simp [intOf]; omega
    · obtain rfl : k = n := by omega
      have hoT : upTo m xs = true := upTo_all (fun j hj => HE.out j (by rw [← X1.out]; exact hj))
      have HoT := Lib.hid hoT
      clear hoT
      by_cases h3 : k = 3
      · have hoF : o = true := by rw [Ho.out, listB_in (by rw [X1.out]; exact h3)]; exact HoT.out
        subst hoF
        subst h3
        go_wp2_with fail
        go_ret
        exact ⟨rfl, rfl⟩
      · have hoF : o = false := by rw [Ho.out, listB_len (by rw [X1.out]; exact h3)]
        subst hoF
        have h3' : ((k : Int) == 3) = false := by simp; omega
        go_wp2_with fail
        go_ret
        exact ⟨rfl, rfl⟩

theorem spec_HeapsValid (ao : Option Addr) (n c : Nat) (xs : List Int) (w : World) (h : Sl w ao n c xs) :
    Calls Try.prog 22 #[.slice ao n c] w fun e w' => e = .returned (.bool (listB 40 xs)) ∧ w = w' := by
  have k1 := Lib.hid (l8List_any ao n c xs 40 w h)
  obtain ⟨r, hr⟩ : ∃ r, r = listB 40 xs := ⟨_, rfl⟩
  rw [← hr] at k1 ⊢
  clear h hr
  go_enter Try.func22, Try.ntmps22
  go_wp2_with fail
  refine (k1.out).mono ?_
  rintro ee wx ⟨rfl, rfl⟩
  go_wp2_with fail
  go_ret
  exact ⟨rfl, rfl⟩

set_option maxHeartbeats 1000000 in
theorem iTradeValid_any (a1 a2 : Option Addr) (n1 c1 n2 c2 : Nat) (t : Tr) (w : World) (hb1 : n1 ≤ 1000000000000) (hb2 : n2 ≤ 1000000000000) (h1 : Sl w a1 n1 c1 t.take) (h2 : Sl w a2 n2 c2 t.give) :
    Calls Try.prog 14 #[.agg #[.slice a1 n1 c1, .slice a2 n2 c2]] w fun e w' => e = .returned (.bool (tradeB t)) ∧ Below w.heap.size w w' := by
  obtain ⟨W, hW⟩ : ∃ W, w.alloc (.cells #[.slice a1 n1 c1, .slice a2 n2 c2] 25) = W := ⟨_, rfl⟩
  have hc0 : W.cell? ⟨w.heap.size, 0, none⟩ = some (.slice a1 n1 c1) := by rw [← hW]; exact Joins.cell_alloc_mark_at _ _ _ _ _ _ rfl
  have hc1 : W.cell? ⟨w.heap.size, 1, none⟩ = some (.slice a2 n2 c2) := by rw [← hW]; exact Joins.cell_alloc_mark_at _ _ _ _ _ _ rfl
  have hbW : Below w.heap.size w W := by rw [← hW]; exact (Below.refl _ _).alloc (Nat.le_refl _) _
  have HbW := Lib.hid hbW
  have k1 := Lib.hid (isOfHeaps_any a1 n1 c1 t.take 5 W hb1 (h1.below hbW))
  have k2 := Lib.hid (isOfHeaps_any a2 n2 c2 t.give 5 W hb2 (h2.below hbW))
  obtain ⟨b1, e1⟩ : ∃ b, b = listB 5 t.take := ⟨_, rfl⟩
  obtain ⟨b2, e2⟩ : ∃ b, b = listB 5 t.give := ⟨_, rfl⟩
  have hT : tradeB t = (b1 && b2) := by rw [tradeB, e1, e2]
  rw [hT]
  rw [← e1] at k1
  rw [← e2] at k2
  clear h1 h2 hbW e1 e2 hT
  go_enter Try.func14, Try.ntmps14
  go_wp2_with fail
  refine (k1.out).mono ?_
  rintro ee wx ⟨rfl, rfl⟩
  cases b1 with
  | true =>
    go_wp2_with fail
    refine (k2.out).mono ?_
    rintro ee wx ⟨rfl, rfl⟩
    go_wp2_with fail
    go_ret
    exact ⟨rfl, HbW.out⟩
  | false =>
    go_wp2_with fail
    go_ret
    exact ⟨rfl, HbW.out⟩

set_option maxHeartbeats 1000000 in
theorem sTradeValid_any (a1 a2 : Option Addr) (n1 c1 n2 c2 : Nat) (t : Tr) (w : World) (h1 : Sl w a1 n1 c1 t.take) (h2 : Sl w a2 n2 c2 t.give) :
    Calls Try.prog 15 #[.agg #[.slice a1 n1 c1, .slice a2 n2 c2]] w fun e w' => e = .returned (.bool (tradeB t)) ∧ Below w.heap.size w w' := by
  obtain ⟨W, hW⟩ : ∃ W, w.alloc (.cells #[.slice a1 n1 c1, .slice a2 n2 c2] 25) = W := ⟨_, rfl⟩
  have hc0 : W.cell? ⟨w.heap.size, 0, none⟩ = some (.slice a1 n1 c1) := by rw [← hW]; exact Joins.cell_alloc_mark_at _ _ _ _ _ _ rfl
  have hc1 : W.cell? ⟨w.heap.size, 1, none⟩ = some (.slice a2 n2 c2) := by rw [← hW]; exact Joins.cell_alloc_mark_at _ _ _ _ _ _ rfl
  have hbW : Below w.heap.size w W := by rw [← hW]; exact (Below.refl _ _).alloc (Nat.le_refl _) _
  have HbW := Lib.hid hbW
  have k1 := Lib.hid (l8List_any a1 n1 c1 t.take 5 W (h1.below hbW))
  have k2 := Lib.hid (l8List_any a2 n2 c2 t.give 5 W (h2.below hbW))
  obtain ⟨b1, e1⟩ : ∃ b, b = listB 5 t.take := ⟨_, rfl⟩
  obtain ⟨b2, e2⟩ : ∃ b, b = listB 5 t.give := ⟨_, rfl⟩
  have hT : tradeB t = (b1 && b2) := by rw [tradeB, e1, e2]
  rw [hT]
  rw [← e1] at k1
  rw [← e2] at k2
  clear h1 h2 hbW e1 e2 hT
  go_enter Try.func15, Try.ntmps15
  go_wp2_with fail
  refine (k1.out).mono ?_
  rintro ee wx ⟨rfl, rfl⟩
  cases b1 with
  | true =>
    go_wp2_with fail
    refine (k2.out).mono ?_
    rintro ee wx ⟨rfl, rfl⟩
    go_wp2_with fail
    go_ret
    exact ⟨rfl, HbW.out⟩
  | false =>
    go_wp2_with fail
    go_ret
    exact ⟨rfl, HbW.out⟩

end Go.Proofs.Ytgcdbndnpcfcnaa
