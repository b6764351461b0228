/- Marks: the laws write numbers into what they were given, and look for them again. -/
import Derived.Test.YtdcgcohfbcdnnaaLawKit
namespace Go.Proofs.Ytdcgcohfbcdnnaa
set_option maxRecDepth 100000
open Go.RowKit

def marks (k : Int) : Nat → List Int
  | 0 => []
  | n + 1 => marks k n ++ [k + n]
theorem marks_len (k : Int) (n : Nat) : (marks k n).length = n := by
  induction n with
  | zero => rfl
  | succ n ih => simp [marks, ih]
theorem marks_get (k : Int) (n j : Nat) (h : j < n) : (marks k n).getD j 0 = k + j := by
  induction n with
  | zero => omega
  | succ n ih =>
    rw [marks]
    by_cases hj : j < n
    · have := ih hj
      simp only [List.getD, List.getElem?_append_left (show j < (marks k n).length by rw [marks_len]; exact hj)] at this ⊢
      exact this
    · obtain rfl : j = n := by omega
      simp [List.getD, marks_len]

theorem mark_set (k : Int) (j : Nat) (z : Value) (zs : List Value) :
    (ints (marks k j) ++ z :: zs).set j (.int .i64 (k + j)) = ints (marks k (j + 1)) ++ zs := by
  have hl : (ints (marks k j)).length = j := by rw [ints_len, marks_len]
  rw [List.set_append_right _ _ (by omega), hl, Nat.sub_self, marks]
  simp [ints]

theorem grownBy_trans {a b c : World} {row : Option Nat} (h : a.grownBy b row) (k : b.grownBy c row) : a.grownBy c row :=
  ⟨k.os.trans h.os, k.tape.trans h.tape, k.output.trans h.output, Nat.le_trans h.size k.size, fun i hi hne => (k.block i (Nat.lt_of_lt_of_le hi h.size) hne).trans (h.block i hi hne)⟩

set_option maxHeartbeats 1000000 in
theorem markIntS_any (B : Nat) (ao : Option Addr) (n cap : Nat) (xs : List Int) (k : Int) (w : World) (hn : n ≤ 1000000000) (hk0 : 0 ≤ k) (hk1 : k ≤ 1000000000)
    (ho : w.ownsRow B 3 1 (.slice ao n cap) n (ints xs)) :
    Calls Try.prog 16 #[.slice ao n cap, .int .i64 k] w fun e w' => e = .returned (.int .i64 (k + n)) ∧ w'.ownsRow B 3 1 (.slice ao n cap) n (ints (marks k n)) ∧ Below B w w' ∧ w.grownBy w' (Value.ownBlock (.slice ao n cap)) := by
  by_cases h0 : n = 0
  · subst h0
    have hx : xs = [] := by have := ho.1; rw [ints_len] at this; simpa using this
    subst hx
    have Ho := Lib.hid ho
    clear ho
    go_enter Try.func16, Try.ntmps16
    go_wp2_with fail
    go_loop [1, 5] (fun i j => i = .int .i64 k ∧ j = .int .i64 0) (fun _ _ => 0)
    case atStart => exact ⟨rfl, rfl⟩
    case round =>
      obtain ⟨rfl, rfl⟩ := hrel
      go_wp2_with fail
      go_ret
      exact ⟨ret_int (by simp), Ho.out, Below.refl _ _, World.grownBy.refl _ _⟩
  · obtain ⟨g, cap', hv⟩ := Joins.ownsRow_form ho (by omega)
    simp at hv
    obtain ⟨rfl, rfl⟩ := hv
    have hgl := ho.lt g rfl
    have Ho := Lib.hid ho
    clear ho
    go_enter Try.func16, Try.ntmps16
    go_wp2_with fail
    go_loopw [1, 5] (fun i j wr => ∃ (c : Nat) (zs : List Value), c ≤ n ∧ i = .int .i64 (k + c) ∧ j = .int .i64 c ∧ wr.ownsRow B 3 1 (.slice (some ⟨g, 0, none⟩) n cap) n (ints (marks k c) ++ zs) ∧ Below B w wr ∧ w.grownBy wr (some g)) (fun _ j _ => n - (intOf j).toNat)
    case atStart => exact ⟨0, ints xs, Nat.zero_le _, by simp, rfl, by simpa [marks, ints] using Ho.out, Below.refl _ _, World.grownBy.refl _ _⟩
    case round =>
      obtain ⟨c, zs, hc, rfl, rfl, ho, hbel, hgr⟩ := hrel
      have hlen := ho.1
      rw [List.length_append, ints_len, marks_len] at hlen
      by_cases hlt : c < n
      · obtain ⟨z, zs', rfl⟩ : ∃ z zs', zs = z :: zs' := by
          cases zs with
          | nil => simp at hlen; omega
          | cons z zs' => exact ⟨z, zs', rfl⟩
        have hcell : wr.cell? ⟨g, c, none⟩ = some z := by
          have hl : (ints (marks k c)).length = c := by rw [ints_len, marks_len]
          rw [ho.cellAt _ (by omega), List.getElem?_append_right (by omega), hl, Nat.sub_self]
          rfl
        have hf := ho.frozenAt c
        clear hlen
        go_wp2_with fail
        go_roundw
        case rel =>
          have h7 := (ho.stored c (.int .i64 (k + c))).1
          rw [mark_set k c z zs'] at h7
          exact ⟨c + 1, zs', by omega, by go_num, by go_num, h7, hbel.setCell (p := ⟨g, c, none⟩) hgl.1 _, grownBy_trans hgr (ho.stored c (.int .i64 (k + c))).2⟩
        case measure => simp [intOf]; omega
      · obtain rfl : c = n := by omega
        have hz : zs = [] := by cases zs with
          | nil => rfl
          | cons z zs' => simp at hlen
        subst hz
        clear hlen
        go_wp2_with fail
        go_ret
        exact ⟨rfl, by simpa using ho, hbel, hgr⟩

theorem heldIntS_any (ao : Option Addr) (n cap : Nat) (k : Int) (w : World) (hn : n ≤ 1000000000) (hk0 : 0 ≤ k) (hk1 : k ≤ 1000000000) (h : Sl w ao n cap (marks k n)) :
    Calls Try.prog 17 #[.slice ao n cap, .int .i64 k] w fun e w' => e = .returned (.int .i64 (k + n)) ∧ Below w.heap.size w w' := by
  have H4 := Lib.hid h.2.2.2
  clear h
  go_enter Try.func17, Try.ntmps17
  go_wp2_with fail
  go_loop [1, 5] (fun i j => ∃ (c : Nat), c ≤ n ∧ i = .int .i64 (k + c) ∧ j = .int .i64 c) (fun _ j => n - (intOf j).toNat)
  case atStart => exact ⟨0, Nat.zero_le _, by simp, rfl⟩
  case round =>
    obtain ⟨c, hc, rfl, rfl⟩ := hrel
    by_cases hlt : c < n
    · obtain ⟨b, off, rfl, hat⟩ := H4.out (by omega)
      have hx : w.cell? ⟨b, off + c, none⟩ = some (.int .i64 (k + c)) := by
        rw [hat c (by rw [marks_len]; exact hlt), marks_get k n c hlt]
      have hne : ((k + (c : Int)) != (k + (c : Int))) = false := by simp
      go_wp2_with fail
      go_round
      case rel => exact ⟨c + 1, by omega, by go_num, by go_num⟩
      case measure => simp [intOf]; omega
    · obtain rfl : c = n := by omega
      go_wp2_with fail
      go_ret
      exact ⟨rfl, Below.refl _ _⟩

end Go.Proofs.Ytdcgcohfbcdnnaa
