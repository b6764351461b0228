/- GoodsteinNext, GoodsteinRun, GoodsteinEnd: the program's and the model's answers. -/
import Derived.Test.YtaealfmgmonndaaBaseU
import Derived.Deep.LoopGhost
namespace Go.Proofs.Ytaealfmgmonndaa
set_option maxRecDepth 100000
open Go.RowKit

theorem T.goodI_out {n b : Int} (h : ¬ ((1 ≤ n ∧ n ≤ 1000000000) ∧ 2 ≤ b ∧ b ≤ 89)) : T.goodI n b = -1 := by
  rw [T.goodI, if_neg]
  rintro ⟨h1, h2, h3, h4⟩
  by_cases h5 : 1000000000 < n
  · rw [T.changeI_out (.inr h5)] at h4; omega
  · exact h ⟨⟨h1, by omega⟩, h2, h3⟩
theorem T.goodI_in {n b : Int} (h : (1 ≤ n ∧ n ≤ 1000000000) ∧ 2 ≤ b ∧ b ≤ 89) : T.goodI n b = if 0 ≤ T.changeI n b (b + 1) then T.changeI n b (b + 1) - 1 else -1 := by
  rw [T.goodI]
  by_cases h4 : 0 ≤ T.changeI n b (b + 1)
  · rw [if_pos ⟨h.1.1, h.2.1, h.2.2, h4⟩, if_pos h4]
  · rw [if_neg (fun k => h4 k.2.2.2), if_neg h4]
theorem T.goodI_vals (n b : Int) : T.goodI n b = -1 ∨ 0 ≤ T.goodI n b ∧ T.goodI n b ≤ 1000000000 := by
  rw [T.goodI]
  split
  · rename_i h
    rcases T.changeI_vals n b (b + 1) with h1 | h1
    · omega
    · omega
  · exact .inl rfl
theorem T.goodI_zero (b : Int) : T.goodI 0 b = -1 := T.goodI_out (by omega)

theorem impl_GoodsteinNext (n b : Int) (w : World) (hn0 : -9223372036854775808 ≤ n) (hn1 : n ≤ 9223372036854775807) (hb0 : -9223372036854775808 ≤ b) (hb1 : b ≤ 9223372036854775807) :
    Calls Try.prog 21 #[.int .i64 n, .int .i64 b] w fun e w' => e = .returned (.int .i64 (T.goodI n b)) ∧ Below w.heap.size w w' := by
  have k1 := Lib.hid (mayFollow_any n b w)
  by_cases h : (1 ≤ n ∧ n ≤ 1000000000) ∧ 2 ≤ b ∧ b ≤ 89
  · rw [decide_eq_true h] at k1
    rw [T.goodI_in h]
    have k2 := Lib.hid (impl_ChangeBase n b (b + 1) w hn0 hn1 hb0 hb1 (by omega) (by omega))
    have hv := T.changeI_vals n b (b + 1)
    obtain ⟨g, hg⟩ : ∃ g, g = T.changeI n b (b + 1) := ⟨_, rfl⟩
    rw [← hg] at k2 hv ⊢
    clear hg
    go_enter Try.func21, Try.ntmps21
    go_wp2_with fail
    refine (k1.out).mono ?_
    rintro ee wx ⟨rfl, rfl⟩
    go_wp2_with fail
    refine (k2.out).mono ?_
    rintro ee w2 ⟨rfl, hb2⟩
    have Hb2 := Lib.hid hb2
    clear hb2
    rcases hv with rfl | ⟨hg0, hg1⟩
    · go_wp2_with fail
      go_ret
      exact ⟨rfl, Hb2.out⟩
    · have hgn : ¬ g < 0 := by omega
      go_wp2_with fail
      go_ret
      exact ⟨rfl, Hb2.out⟩
  · rw [decide_eq_false h] at k1
    rw [T.goodI_out h]
    clear h
    go_enter Try.func21, Try.ntmps21
    go_wp2_with fail
    refine (k1.out).mono ?_
    rintro ee wx ⟨rfl, rfl⟩
    go_wp2_with fail
    go_ret
    exact ⟨rfl, Below.refl _ _⟩

theorem spec_GoodsteinNext (n b : Int) (w : World) (hn0 : -9223372036854775808 ≤ n) (hn1 : n ≤ 9223372036854775807) (hb0 : -9223372036854775808 ≤ b) (hb1 : b ≤ 9223372036854775807) :
    Calls Try.prog 22 #[.int .i64 n, .int .i64 b] w fun e w' => e = .returned (.int .i64 (T.goodI n b)) ∧ Below w.heap.size w w' := by
  by_cases h1 : n < 1
  · rw [T.goodI_out (by omega)]
    go_enter Try.func22, Try.ntmps22
    go_wp2_with fail
    go_ret
    exact ⟨rfl, Below.refl _ _⟩
  · by_cases h2 : 2 ≤ b ∧ b ≤ 89
    · have k1 := Lib.hid (l1In_yes b 2 89 w h2.1 h2.2)
      have k2 := Lib.hid (fun wx => spec_ChangeBase n b (b + 1) wx hn0 hn1 hb0 hb1 (by omega) (by omega))
      have hv := T.changeI_vals n b (b + 1)
      have he : T.goodI n b = if 0 ≤ T.changeI n b (b + 1) then T.changeI n b (b + 1) - 1 else -1 := by
        by_cases h9 : n ≤ 1000000000
        · exact T.goodI_in ⟨⟨by omega, h9⟩, h2⟩
        · rw [T.goodI_out (by omega), T.changeI_out (by omega)]; rfl
      rw [he]
      obtain ⟨g, hg⟩ : ∃ g, g = T.changeI n b (b + 1) := ⟨_, rfl⟩
      rw [← hg] at k2 hv ⊢
      clear hg he
      go_enter Try.func22, Try.ntmps22
      go_wp2_with fail
      refine (k1.out).mono ?_
      rintro ee wx ⟨rfl, rfl⟩
      go_wp2_with fail
      refine (k2.out _).mono ?_
      rintro ee w2 ⟨rfl, hb2⟩
      have Hb2 := Lib.hid hb2
      clear hb2
      rcases hv with rfl | ⟨hg0, hg1⟩
      · go_wp2_with fail
        go_ret
        exact ⟨rfl, Hb2.out⟩
      · have hgn : ¬ g < 0 := by omega
        go_wp2_with fail
        refine (k2.out _).mono ?_
        rintro ee w3 ⟨rfl, hb3⟩
        have Hb3 := Lib.hid (Hb2.out.trans (hb3.mono Hb2.out.size))
        clear hb3
        go_wp2_with fail
        go_ret
        exact ⟨rfl, Hb3.out⟩
    · have k1 := Lib.hid (l1In_no b 2 89 w (by omega))
      rw [T.goodI_out (by omega)]
      clear h2
      go_enter Try.func22, Try.ntmps22
      go_wp2_with fail
      refine (k1.out).mono ?_
      rintro ee wx ⟨rfl, rfl⟩
      go_wp2_with fail
      go_ret
      exact ⟨rfl, Below.refl _ _⟩

theorem T.goods_len : ∀ (k : Nat) (n b : Int), (T.goods k n b).length ≤ k := by
  intro k
  induction k with
  | zero => intro n b; exact Nat.le_refl _
  | succ k ih =>
    intro n b
    rw [T.goods]
    split
    · exact Nat.zero_le _
    · simp only [List.length_cons]; have := ih (T.goodI n b) (b + 1); omega
theorem T.goodRun_len (n : Int) : (T.goodRun n).length ≤ 1000 := by
  unfold T.goodRun
  split
  · simp only [List.length_cons]; have := T.goods_len 59 n 2; omega
  · simp
theorem T.goods_end {k : Nat} {n b : Int} (h : T.goodI n b = -1) : T.goods k n b = [] := by
  cases k with
  | zero => rfl
  | succ k => rw [T.goods, h, if_pos (by omega)]
theorem T.goods_next {k : Nat} {n b : Int} (h : 0 ≤ T.goodI n b) : T.goods (k + 1) n b = T.goodI n b :: T.goods k (T.goodI n b) (b + 1) := by
  rw [T.goods, if_neg (by omega)]

def GrL (w : World) (N : Int) (gk : Nat) (v0 v3 v4 : Value) (wr : World) : Prop :=
  ∃ (m : Int) (i : Nat) (xs : List Int) (a : Option Addr) (c : Nat), v0 = .int .i64 m ∧ 0 ≤ m ∧ m ≤ 1000000000 ∧ v4 = .int .i64 ((i : Int) + 2) ∧ gk + i = 59 ∧ xs.length = i + 1 ∧ v3 = .slice a (i + 1 : Nat) c ∧
    T.goodRun N = xs ++ T.goods gk m ((i : Int) + 2) ∧ wr.ownsRow w.heap.size 3 1 v3 (i + 1) (ints xs) ∧ Below w.heap.size w wr

theorem IntPost.run {w wr : World} {xs r : List Int} {a : Option Addr} {l c : Nat} (h : wr.ownsRow w.heap.size 3 1 (.slice a l c) l (ints xs)) (hl : xs.length = l) (hr : r = xs) (hb : Below w.heap.size w wr) : IntPost w r (.returned (.slice a l c)) wr := by
  subst hr; subst hl
  exact ⟨a, c, rfl, h, hb⟩


theorem T.goodEnd_nil {n : Int} (h : T.goodRun n = []) : T.goodEnd n = -1 := by rw [T.goodEnd, if_neg (fun k => k.1 h)]
theorem T.goodEnd_some {n : Int} {xs : List Int} {x : Int} (h : T.goodRun n = xs ++ [x]) : T.goodEnd n = if x = 0 then ((xs.length + 1 : Nat) : Int) else -1 := by
  have h1 : (xs ++ [x]).getLastD 0 = x := by simp
  rw [T.goodEnd, h, h1]
  by_cases hx : x = 0
  · rw [if_pos ⟨by simp, hx⟩, if_pos hx]; simp
  · rw [if_neg (fun k => hx k.2), if_neg hx]



end Go.Proofs.Ytaealfmgmonndaa
