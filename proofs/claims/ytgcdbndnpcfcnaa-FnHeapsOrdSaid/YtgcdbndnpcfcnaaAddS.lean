/- The model's sums. -/
import Derived.Test.YtgcdbndnpcfcnaaAdd
import Derived.Test.YtgcdbndnpcfcnaaOld
import Derived.Test.YtgcdbndnpcfcnaaMakeS
import Derived.Test.YtgcdbndnpcfcnaaRawKit
import Derived.Deep.LoopGhost
import Derived.Deep.DeepCutAuto
import Derived.Deep.CutBlock
import Derived.StillTailTactics
namespace Go.Proofs.Ytgcdbndnpcfcnaa
set_option maxRecDepth 100000
open Go.RowKit

def IntPost (w : World) (r : List Int) (e : Ending) (w' : World) : Prop :=
  ∃ a c, e = .returned (.slice a r.length c) ∧ w'.ownsRow w.heap.size 3 1 (.slice a r.length c) r.length (ints r) ∧ Below w.heap.size w w'

/-- What lies in rows of numbers and of exponents. -/
def Two (w0 w : World) (v1 v2 : Value) (t : T) (es : List Value) : Prop :=
  w.ownsRow w0.heap.size 3 1 v1 t.cnt (ints t.times) ∧ w.ownsRow w0.heap.size 23 1 v2 t.cnt es ∧ EC w0 t es

def SumLoop (w : World) (s e : T) (gk : Nat) (v9 v10 v11 : Value) (wr : World) : Prop :=
  ∃ (k : Nat) (d u : T) (es : List Value) (a9 a10 : Option Addr) (c9 c10 : Nat), v11 = .int .i64 k ∧ gk + k = s.cnt ∧ d.app u = s ∧ d.cnt = k ∧ T.takeGe e s = d.app (T.takeGe e u) ∧
    v9 = .slice a9 k c9 ∧ v10 = .slice a10 k c10 ∧ Two w wr v9 v10 d es ∧ Below w.heap.size w wr

def SumAt (w : World) (s e : T) (v9 v10 : Value) (wr : World) : Prop :=
  ∃ (d : T) (es : List Value) (a9 a10 : Option Addr) (c9 c10 : Nat), T.takeGe e s = d ∧ v9 = .slice a9 d.cnt c9 ∧ v10 = .slice a10 d.cnt c10 ∧ d.cnt ≤ s.cnt ∧ Two w wr v9 v10 d es ∧ Below w.heap.size w wr

def SumEnd (w : World) (s : T) (m : Int) (e r : T) (v9 v10 v13 : Value) (wr : World) : Prop :=
  ∃ (d : T) (es : List Value) (a9 a10 : Option Addr) (c9 c10 fr : Nat), v13 = .int .i64 fr ∧ v9 = .slice a9 d.cnt c9 ∧ v10 = .slice a10 d.cnt c10 ∧ d.cnt ≤ s.cnt ∧ Two w wr v9 v10 d es ∧ Below w.heap.size w wr ∧
    ((fr = 0 ∧ T.add s (.c m e r) = d.app (.c m e r)) ∨ (fr = 1 ∧ T.add s (.c m e r) = d.app r))

def SumTest (wz : World) (s : T) (m : Int) (e r d : T) (v : Value) (wx : World) : Prop :=
  Below wz.heap.size wz wx ∧ ((v = .bool false ∧ T.add s (.c m e r) = d.app (.c m e r)) ∨ (v = .bool true ∧ ∃ (d' : T) (n : Int), d = d'.app (.c n e .z) ∧ 1 ≤ n ∧ n ≤ 9999 ∧ T.add s (.c m e r) = d'.app (.c (m + n) e r)))

theorem ec_join {w : World} {d u : T} {es fs : List Value} (h : EC w d es) (k : EC w u fs) : EC w (d.app u) (es ++ fs) := by
  induction d generalizing es with
  | z => simp only [EC] at h; subst h; exact k
  | c n e r _ ih =>
    obtain ⟨b, off, cap, es', rfl, h1, h2, h3, h4⟩ := h
    exact ⟨b, off, cap, _, rfl, h1, h2, h3, ih h4⟩
theorem ec_one {w : World} {t : T} {es : List Value} (h : EC w t es) : ∀ u ∈ es, u.oneCell' = true := by
  induction t generalizing es with
  | z => simp only [EC] at h; subst h; intro u hu; cases hu
  | c n e r _ ih =>
    obtain ⟨b, off, cap, es', rfl, _, _, _, h⟩ := h
    intro u hu
    rcases List.mem_cons.1 hu with rfl | hu
    · rfl
    · exact ih h u hu
theorem own_cap' {w : World} {B e n m c : Nat} {a : Option Addr} {xs : List Value} (h : w.ownsRow B e 1 (.slice a n c) n xs) (hm : m = n) : m ≤ c := by
  rcases h.2 with ⟨h1, _⟩ | ⟨g, cap, cur, h0, h1, h2, h3, h4, _⟩
  · simp only [Value.slice.injEq] at h1; omega
  · simp only [Value.slice.injEq] at h0; omega
theorem ints_len' (xs : List Int) : (xs.map (Value.int .i64)).length = xs.length := by simp
theorem row_drop {w wx : World} {g n : Nat} {xs : List Value} (h : ∀ j, j < n → w.cell? ⟨g, j, none⟩ = xs[j]?) (hl : xs.length = n) (hg : g < w.heap.size) (hb : Below w.heap.size w wx) (k : Nat) :
    ∀ j v, (xs.drop k)[j]? = some v → wx.cell? ((⟨g, k, none⟩ : Addr).add j) = some v := by
  intro j v hj
  have hjl : j < (xs.drop k).length := (List.getElem?_eq_some_iff.1 hj).1
  rw [List.length_drop] at hjl
  rw [Addr.add_lit, hb.cell (p := ⟨g, k + j, none⟩) hg, h (k + j) (by omega)]
  rw [List.getElem?_drop] at hj
  exact hj
theorem sum_sl {w : World} {B n c : Nat} {a : Option Addr} {t : T} {xs : List Value} (h : w.ownsRow B 3 1 (.slice a n c) n xs) (hx : xs = ints t.times) : Sl w a n c t.times := by
  subst hx; exact Sl.of_own h
theorem sum_ex {w : World} {B n c : Nat} {a : Option Addr} {t : T} {es : List Value} (h : w.ownsRow B 23 1 (.slice a n c) n es) (hE : EC w t es) (hn : n = t.cnt) : Ex w a n t := Ex.of_own h hE hn

theorem ints_snoc (d f : T) (n : Int) : ints d.times ++ [.int .i64 n] = ints (d.app (.c n f .z)).times := by
  rw [T.times_app]; simp [ints, T.times]

end Go.Proofs.Ytgcdbndnpcfcnaa
