/- Leaves: functions that only compute or read. -/
import Derived.Test.YtdcgcohfbcdnnaaProg
import Derived.Test.YtdcgcohfbcdnnaaRead
import Derived.WalkKit
import Derived.WalkLawsBesides
import Derived.WalkSpells
import Derived.BigQuiet
import Derived.Deep.QuietTactic
import Derived.Lib.Hide
namespace Go.Proofs.Ytdcgcohfbcdnnaa
set_option maxRecDepth 100000
open Go.RowKit

theorem ret_int {k : IntKind} {a b : Int} (h : a = b) : Ending.returned (.int k a) = .returned (.int k b) := by rw [h]

theorem l1In_yes (n lo hi : Int) (w : World) (h1 : lo ≤ n) (h2 : n ≤ hi) :
    Calls Try.prog 48 #[.int .i64 n, .int .i64 lo, .int .i64 hi] w fun e w' => e = .returned (.bool true) ∧ w = w' := by
  go_enter Try.func48, Try.ntmps48
  go_wp2
  go_ret
  exact ⟨rfl, rfl⟩

theorem l1In_no (n lo hi : Int) (w : World) (h1 : n < lo ∨ hi < n) :
    Calls Try.prog 48 #[.int .i64 n, .int .i64 lo, .int .i64 hi] w fun e w' => e = .returned (.bool false) ∧ w = w' := by
  by_cases h : lo ≤ n
  · have h2 : decide (n ≤ hi) = false := by simp; omega
    go_enter Try.func48, Try.ntmps48
    go_wp2
    go_ret
    exact ⟨by simp, rfl⟩
  · have h2 : n < lo := by omega
    go_enter Try.func48, Try.ntmps48
    go_wp2
    go_ret
    exact ⟨rfl, rfl⟩


/-- cmp.Compare at int, behind a name. -/
def cmpI (x y : Int) : Int := if x < y then -1 else if y < x then 1 else 0

theorem cmp_int (x y : Int) (w : World) :
    Calls Try.prog 114 #[.int .i64 x, .int .i64 y] w fun e w' => e = .returned (.int .i64 (cmpI x y)) ∧ w = w' := by
  unfold cmpI
  go_enter Try.func114, Try.ntmps114
  go_wp2
  all_goals (go_ret; exact ⟨by simp [*], rfl⟩)

theorem lengthOfOrd_any (b off len cap : Nat) (xs rest : List Int) (t : T) (w : World) (hl : xs.length = len) (hb : len ≤ 1000000000000) (hat : At w b off xs) (hx : xs = t.enc ++ rest) :
    Calls Try.prog 113 #[.slice (some ⟨b, off, none⟩) len cap] w fun e w' => e = .returned (.int .i64 (t.enc.length : Nat)) ∧ w = w' := by
  have h0 : xs.drop 0 = (t.cnt : Int) :: (t.body ++ rest) := by rw [hx]; rfl
  have hc0 : w.cell? ⟨b, off, none⟩ = some (.int .i64 t.cnt) := by simpa using hat.get h0
  have hlen : xs.length = t.enc.length + rest.length := by rw [hx]; simp
  have hp : 0 < len := by rw [← hl, hlen, T.enc_len]; omega
  have hcnt := T.cnt_le t
  have hel := T.enc_len t
  have H1 := Lib.hid hlen
  have H2 := Lib.hid hl
  have H3 := Lib.hid hel
  have H4 := Lib.hid h0
  have H5 := Lib.hid hx
  have hcl : t.cnt ≤ len := by omega
  clear hlen hl hel h0 hx
  go_enter Try.func113, Try.ntmps113
  go_wp2
  go_loop [3, 4] (fun i o => ∃ (a : Nat) (u : T), 1 ≤ a ∧ a + u.body.length + rest.length = len ∧ i = .int .i64 a ∧ o = .int .i64 u.cnt ∧ xs.drop a = u.body ++ rest) (fun i _ => len - (intOf i).toNat)
  case atStart => exact ⟨1, t, by omega, by have := H1.out; have := H2.out; have := H3.out; omega, rfl, rfl, drop_more H4.out⟩
  case round =>
    obtain ⟨a, u, ha1, ha, rfl, rfl, hd⟩ := hrel
    have Ha := Lib.hid ha
    have hal : a + u.body.length ≤ len := by omega
    clear ha
    cases u with
    | z =>
      have hz : (((T.z).cnt : Nat) : Int) = 0 := rfl
      have HD := Lib.hid hd
      clear hd
      go_wp2
      go_ret
      exact ⟨ret_int (by have := H1.out; have := H2.out; have := Ha.out; simp [T.body] at this; omega), rfl⟩
    | c n e r =>
      have hd2 : xs.drop a = n :: (e.cnt : Int) :: (e.body ++ r.body ++ rest) := by rw [hd]; simp [T.body]
      have hd3 := drop_more hd2
      have hc1 := hat.get hd3
      have hcc : e.cnt + r.cnt ≤ len := by
        have h1 := T.cnt_le e
        have h2 := T.cnt_le r
        simp [T.body] at hal
        omega
      have HD := Lib.hid (drop_more hd3)
      have hk : ((T.c n e r).cnt : Int) = (r.cnt : Int) + 1 := by simp [T.cnt]
      have hlt : a + 1 < len := by simp [T.body] at hal; omega
      clear hd hd2 hd3
      go_wp2
      go_round
      case rel => exact ⟨a + 2, e.app r, by omega, by have := Ha.out; rw [T.app_body]; simp [T.body] at this ⊢; omega, by go_num, by rw [T.app_cnt]; go_num, by rw [T.app_body]; exact HD.out⟩
      case measure => simp [intOf]; omega

end Go.Proofs.Ytdcgcohfbcdnnaa
