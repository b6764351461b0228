/- Exchanges, without memory: rules, heaps, what is left. -/
import Derived.Test.YtdcgcohfbcdnnaaRowA
namespace Go.Proofs.Ytdcgcohfbcdnnaa
set_option maxRecDepth 100000
open Go.RowKit

/-- A rule: what it takes and what it gives. -/
structure Tr where
  take : List Int
  give : List Int

/-- A number in 0..m for each of the three heaps. -/
def listB (m : Int) (xs : List Int) : Bool := decide (xs.length = 3) && upTo m xs
theorem listB_true {m : Int} {xs : List Int} : listB m xs = true ↔ xs.length = 3 ∧ upTo m xs = true := by rw [listB, Bool.and_eq_true, decide_eq_true_eq]
theorem listB_len {m : Int} {xs : List Int} (h : xs.length ≠ 3) : listB m xs = false := by rw [listB, decide_eq_false h]; rfl
theorem listB_in {m : Int} {xs : List Int} (h : xs.length = 3) : listB m xs = upTo m xs := by rw [listB, decide_eq_true h]; rfl
theorem listB_up {m : Int} {xs : List Int} (h : upTo m xs = false) : listB m xs = false := by rw [listB, h, Bool.and_false]
theorem listB_get {m : Int} {xs : List Int} (h : listB m xs = true) {k : Nat} (hk : k < 3) : 0 ≤ xs.getD k 0 ∧ xs.getD k 0 ≤ m := upTo_get (listB_true.1 h).2 (by rw [(listB_true.1 h).1]; exact hk)
theorem list_tf (m : Int) (xs : List Int) : listB m xs = true ∨ listB m xs = false := by cases listB m xs <;> simp
theorem three {xs : List Int} (h : xs.length = 3) : xs = [xs.getD 0 0, xs.getD 1 0, xs.getD 2 0] := by
  match xs, h with
  | [_, _, _], _ => rfl
theorem listB_three {m a b c : Int} (ha : 0 ≤ a ∧ a ≤ m) (hb : 0 ≤ b ∧ b ≤ m) (hc : 0 ≤ c ∧ c ≤ m) : listB m [a, b, c] = true := by
  rw [listB_true]
  refine ⟨rfl, upTo_true.2 (fun x hx => ?_)⟩
  simp only [List.mem_cons, List.not_mem_nil, or_false] at hx
  rcases hx with rfl | rfl | rfl <;> assumption

def tradeB (t : Tr) : Bool := listB 5 t.take && listB 5 t.give
theorem tradeB_true {t : Tr} : tradeB t = true ↔ listB 5 t.take = true ∧ listB 5 t.give = true := by rw [tradeB, Bool.and_eq_true]
theorem tradeB_take {t : Tr} (h : listB 5 t.take = false) : tradeB t = false := by rw [tradeB, h]; rfl
theorem tradeB_go {t : Tr} (h : listB 5 t.take = true) : tradeB t = listB 5 t.give := by rw [tradeB, h]; rfl
def Tr.turn (t : Tr) : Tr := ⟨t.give, t.take⟩
theorem tradeB_turn (t : Tr) : tradeB t.turn = tradeB t := by rw [tradeB, tradeB, Bool.and_comm]; rfl

def tradesB (ts : List Tr) : Bool := decide (ts.length ≤ 4) && ts.all tradeB
theorem tradesB_true {ts : List Tr} : tradesB ts = true ↔ ts.length ≤ 4 ∧ ∀ t ∈ ts, tradeB t = true := by rw [tradesB, Bool.and_eq_true, decide_eq_true_eq, List.all_eq_true]
theorem tradesB_long {ts : List Tr} (h : ¬ ts.length ≤ 4) : tradesB ts = false := by rw [tradesB, decide_eq_false h]; rfl
theorem tradesB_at {ts : List Tr} {k : Nat} {t : Tr} (h : ts[k]? = some t) (ht : tradeB t = false) : tradesB ts = false := by
  rw [tradesB, Bool.and_eq_false_iff]
  right
  rw [List.all_eq_false]
  exact ⟨t, List.mem_of_getElem? h, by rw [ht]; simp⟩
theorem tradesB_all {ts : List Tr} (hl : ts.length ≤ 4) (h : ∀ (k : Nat) (t : Tr), ts[k]? = some t → tradeB t = true) : tradesB ts = true := by
  rw [tradesB_true]
  refine ⟨hl, fun t ht => ?_⟩
  obtain ⟨k, hk⟩ := List.mem_iff_getElem?.1 ht
  exact h k t hk

/-- What is left of a heap, with what is given. -/
def aft (h : List Int) (t : Tr) (k : Nat) : Int := h.getD k 0 - t.take.getD k 0 + t.give.getD k 0
def fitB (h : List Int) (t : Tr) (k : Nat) : Bool := decide (t.take.getD k 0 ≤ h.getD k 0 ∧ aft h t k ≤ 40)
theorem fitB_true {h : List Int} {t : Tr} {k : Nat} : fitB h t k = true ↔ t.take.getD k 0 ≤ h.getD k 0 ∧ aft h t k ≤ 40 := by rw [fitB, decide_eq_true_eq]
def canB (h : List Int) (t : Tr) : Bool := listB 40 h && (tradeB t && (fitB h t 0 && (fitB h t 1 && fitB h t 2)))
theorem canB_true {h : List Int} {t : Tr} : canB h t = true ↔ listB 40 h = true ∧ tradeB t = true ∧ ∀ k, k < 3 → fitB h t k = true := by
  simp only [canB, Bool.and_eq_true]
  constructor
  · rintro ⟨h1, h2, h3, h4, h5⟩
    refine ⟨h1, h2, fun k hk => ?_⟩
    have : k = 0 ∨ k = 1 ∨ k = 2 := by omega
    rcases this with rfl | rfl | rfl <;> assumption
  · rintro ⟨h1, h2, h3⟩
    exact ⟨h1, h2, h3 0 (by decide), h3 1 (by decide), h3 2 (by decide)⟩
theorem canB_heaps {h : List Int} {t : Tr} (k : listB 40 h = false) : canB h t = false := by rw [canB, k]; rfl
theorem canB_trade {h : List Int} {t : Tr} (k : tradeB t = false) : canB h t = false := by rw [canB, k, Bool.false_and, Bool.and_false]
theorem canB_no {h : List Int} {t : Tr} {k : Nat} (hk : k < 3) (h' : h.getD k 0 < t.take.getD k 0 ∨ 40 < aft h t k) : canB h t = false := by
  rw [Bool.eq_false_iff]
  intro h1
  have := fitB_true.1 ((canB_true.1 h1).2.2 k hk)
  omega
theorem can_tf (h : List Int) (t : Tr) : canB h t = true ∨ canB h t = false := by cases canB h t <;> simp
/-- The heaps behind an exchange. -/
def doR (h : List Int) (t : Tr) : List Int := if canB h t then [aft h t 0, aft h t 1, aft h t 2] else []
theorem doR_yes {h : List Int} {t : Tr} (k : canB h t = true) : doR h t = [aft h t 0, aft h t 1, aft h t 2] := by rw [doR, if_pos k]
theorem doR_no {h : List Int} {t : Tr} (k : canB h t = false) : doR h t = [] := by rw [doR, k]; rfl
theorem doR_len {h : List Int} {t : Tr} (k : canB h t = true) : (doR h t).length = 3 := by rw [doR_yes k]; rfl
theorem doR_le {h : List Int} {t : Tr} : (doR h t).length ≤ 3 := by
  rcases can_tf h t with k | k
  · rw [doR_len k]; exact Nat.le_refl _
  · rw [doR_no k]; decide
theorem doR_valid {h : List Int} {t : Tr} (k : canB h t = true) : listB 40 (doR h t) = true := by
  obtain ⟨h1, h2, h3⟩ := canB_true.1 k
  rw [doR_yes k]
  have g : ∀ j, j < 3 → 0 ≤ aft h t j ∧ aft h t j ≤ 40 := fun j hj => by
    have a1 := fitB_true.1 (h3 j hj)
    have a2 := listB_get (tradeB_true.1 h2).2 hj
    have a3 := a1.2
    refine ⟨?_, a3⟩
    unfold aft
    omega
  exact listB_three (g 0 (by decide)) (g 1 (by decide)) (g 2 (by decide))
theorem doR_back {h : List Int} {t : Tr} (k : canB h t = true) : canB (doR h t) t.turn = true ∧ doR (doR h t) t.turn = h := by
  obtain ⟨h1, h2, h3⟩ := canB_true.1 k
  have hv := doR_valid k
  have hg : ∀ j, j < 3 → (doR h t).getD j 0 = aft h t j := fun j hj => by
    rw [doR_yes k]
    have : j = 0 ∨ j = 1 ∨ j = 2 := by omega
    rcases this with rfl | rfl | rfl <;> rfl
  have ha : ∀ j, j < 3 → aft (doR h t) t.turn j = h.getD j 0 := fun j hj => by
    unfold aft
    rw [hg j hj]
    unfold aft Tr.turn
    show h.getD j 0 - t.take.getD j 0 + t.give.getD j 0 - t.give.getD j 0 + t.take.getD j 0 = h.getD j 0
    omega
  have hc : canB (doR h t) t.turn = true := by
    rw [canB_true]
    refine ⟨hv, by rw [tradeB_turn]; exact h2, fun j hj => ?_⟩
    rw [fitB_true, ha j hj, hg j hj]
    have a1 := fitB_true.1 (h3 j hj)
    have a2 := listB_get h1 hj
    refine ⟨?_, a2.2⟩
    show t.give.getD j 0 ≤ aft h t j
    unfold aft
    omega
  refine ⟨hc, ?_⟩
  rw [doR_yes hc, ha 0 (by decide), ha 1 (by decide), ha 2 (by decide)]
  exact (three (listB_true.1 h1).1).symm

end Go.Proofs.Ytdcgcohfbcdnnaa
