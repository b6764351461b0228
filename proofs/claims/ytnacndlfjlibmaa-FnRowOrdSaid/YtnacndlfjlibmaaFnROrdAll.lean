/- FnROrdAll: one text out of CatI, RowD, RowO, RowM, RowN, RowOS, DrawRow, LFnRowOrd. -/
import Derived.Test.YtnacndlfjlibmaaLawKit
import Derived.Test.YtnacndlfjlibmaaMake
import Derived.Deep.LoopGhost
import Derived.Deep.DeepCutAuto
import Derived.Lib.AppendZeros
import Derived.Laws.AppendOwnNone
import Derived.Test.YtnacndlfjlibmaaRowA
import Derived.Test.YtnacndlfjlibmaaPost
import Derived.Deep.RegionHeld3
import Derived.Test.YtnacndlfjlibmaaBaseK
import Derived.Test.YtnacndlfjlibmaaFn1
import Derived.Test.YtnacndlfjlibmaaRowB
import Derived.Test.YtnacndlfjlibmaaSem
import Derived.Test.YtnacndlfjlibmaaGoodN
import Derived.Test.YtnacndlfjlibmaaMakeS
import Derived.Test.YtnacndlfjlibmaaRawKit
import Derived.Test.YtnacndlfjlibmaaDraw0
import Derived.Deep.CutBlock
import Derived.Test.YtnacndlfjlibmaaPower
import Derived.Test.YtnacndlfjlibmaaNext
/- CatI -/
/- slices.Concat of however many slices of numbers ([]int). -/
namespace Go.Proofs.Ytnacndlfjlibmaa
set_option maxRecDepth 100000
open Go.RowKit
namespace CI

/-- A slice of cells that can be read, or nil. -/
def Rd (w : World) (a : Option Addr) (n c : Nat) (l : List Value) : Prop :=
  l.length = n * 1 ∧ (∀ u ∈ l, u.oneCell' = true) ∧ ((a = none ∧ n = 0 ∧ c = 0) ∨ ∃ x : Addr, a = some x ∧ ∀ j u, l[j]? = some u → w.cell? (x.add j) = some u)

theorem Rd.below {w w' : World} {a : Option Addr} {n c : Nat} {l : List Value} (h : Rd w a n c l) (hb : Below w.heap.size w w') : Rd w' a n c l := by
  refine ⟨h.1, h.2.1, ?_⟩
  rcases h.2.2 with h1 | ⟨x, h1, h2⟩
  · exact .inl h1
  · refine .inr ⟨x, h1, fun j u hj => ?_⟩
    have h3 := h2 j u hj
    have h4 := World.block_lt_of_cell? w _ h3
    rw [hb.cell h4]
    exact h3

theorem own_shape {w : World} {B e n size : Nat} {v : Value} {xs : List Value} (h : w.ownsRow B e size v n xs) : ∃ a c, v = .slice a n c := by
  rcases h.2 with ⟨h1, h2⟩ | ⟨g, cap, cur, h0, _⟩
  · exact ⟨none, 0, by rw [h1, h2]⟩
  · exact ⟨_, cap, h0⟩


def CatPost (w : World) (n : Nat) (l : List Value) (e : Ending) (w' : World) : Prop :=
  ∃ a c', e = .returned (.slice a n c') ∧ w'.ownsRow w.heap.size 3 1 (.slice a n c') n l ∧ Below w.heap.size w w'


/-- At an append whose run is known. -/
theorem wpList_append_run {P : Program} {w : World} {ops : Array Oper} {rest : List Oper} {o : Oper} {a : Act} {Q : Exit → Act → World → Prop} (hgd : o.guard = none) (s x : Operand) (t tn : TypeId)
    (ho : o.op = .call { callee := .builtin .append, args := #[s, x], argTypes := #[t, tn] }) (v u r : Value) (w' : World) (hs : a.eval s = v) (hx : a.eval x = u)
    (hrun : (Builtin.append_ #[t, tn] o.type #[v, u]).run P w = .ok r w') (h : wpList P ops Q rest (a.put o.dst r) w') : wpList P ops Q (o :: rest) a w := by
  refine wpList_plain hgd fun K hK => ?_
  unfold Oper.wp
  simp [execOp, ho, resolve, invoke, builtin, hs, hx, hrun, Result.andThen]
  exact hK _ _ h

/-- slices.Grow of nothing: a row without terms. -/
theorem grow_any (n : Nat) (w : World) (hn : n ≤ 1000000) :
    Calls Try.prog 97 #[.slice none 0 0, .int .i64 n] w fun e w' => ∃ a c, e = .returned (.slice a 0 c) ∧
      w'.ownsRow w.heap.size 3 1 (.slice a 0 c) 0 [] ∧ Below w.heap.size w w' := by
  by_cases h0 : n = 0
  · subst h0
    go_enter Try.func97, Try.ntmps97
    go_wp2_with fail
    go_ret
    exact ⟨none, 0, rfl, ⟨rfl, .inl ⟨rfl, rfl⟩⟩, Below.refl _ _⟩
  · obtain ⟨i0, hi, hz0, hz1, hz2⟩ := info_parts info_int
    have hpos : 0 < n := by omega
    have hp2 : (0 : Int) < n := by omega
    have hr := fun ty => Lib.run_append_nil_zeros (P := Try.prog) w 23 3 ty 3 i0 _ .i64 .i64 Try.underlying23 Try.underlying3 hi hz0 n hpos (by omega) (by omega) (by rw [hz2]; omega)
    obtain ⟨G, hG⟩ : ∃ G, G = grownCap w n 0 3 := ⟨_, rfl⟩
    have hG1 : n ≤ G := by rw [hG]; exact grownCap_ge _ _ _ _
    have hG2 : G ≤ maxLen := by rw [hG]; exact grownCap_le_maxLen _ _ _ _ (by unfold maxLen; omega)
    rw [← hG] at hr
    have hG3 : (0 : Int) ≤ (G : Int) := by omega
    have hw : Below w.heap.size w (w.drew.alloc (.cells (Builtin.zeroCells (Value.int .i64 0).cells n ++ Builtin.zeroCells (Value.int .i64 0).cells (G - n)) 3)) :=
      (Joins.below_draws w.heap.size w 1).alloc (Nat.le_refl _) _
    have ho : (w.drew.alloc (.cells (Builtin.zeroCells (Value.int .i64 0).cells n ++ Builtin.zeroCells (Value.int .i64 0).cells (G - n)) 3)).ownsRow w.heap.size 3 1 (.slice (some ⟨w.heap.size, 0, none⟩) 0 G) 0 [] := by
      refine ⟨rfl, .inr ⟨w.heap.size, G, _, rfl, Nat.le_refl _, heap_alloc_new w.drew _, Nat.zero_le _, hG2, ?_, by simp⟩⟩
      rw [Array.size_append, size_zeroCells, size_zeroCells]
      have h2 : (Value.int .i64 0).cells.size = 1 := rfl
      rw [h2]
      omega
    have Hw := Lib.hid hw
    have Ho := Lib.hid ho
    have Hr := Lib.hid hr
    clear hw ho hG h0 hr
    go_enter Try.func97, Try.ntmps97
    go_wp2_with (first
      | (at_builtin; refine wpList_append_run rfl (.tmp 20) (.tmp 21) 23 3 rfl _ _ _ _ rfl rfl (Hr.out _) ?_))
    go_ret
    exact ⟨_, G, rfl, Ho.out, Hw.out⟩

def psum (ns : Nat → Nat) : Nat → Nat
  | 0 => 0
  | i + 1 => psum ns i + ns i
def pcat (ls : Nat → List Value) : Nat → List Value
  | 0 => []
  | i + 1 => pcat ls i ++ ls i
theorem psum_le {ns : Nat → Nat} {K : Nat} (hb : ∀ i, i < K → ns i ≤ 10000) : ∀ i, i ≤ K → psum ns i ≤ i * 10000 := by
  intro i
  induction i with
  | zero => intro _; exact Nat.le_refl _
  | succ i ih =>
    intro h
    have h1 := ih (by omega)
    have h2 := hb i (by omega)
    rw [psum]
    omega

def CatLoop (w : World) (K : Nat) (ns : Nat → Nat) (ls : Nat → List Value) (gk : Nat) (v6 v27 : Value) (wr : World) : Prop :=
  ∃ (i : Nat) (a : Option Addr) (c : Nat), v27 = .int .i64 i ∧ gk + i = K ∧ v6 = .slice a (psum ns i) c ∧ wr.ownsRow w.heap.size 3 1 v6 (psum ns i) (pcat ls i) ∧ Below w.heap.size w wr

set_option maxHeartbeats 4000000 in
theorem concat_any (K g c : Nat) (ads : Nat → Option Addr) (ns cs : Nat → Nat) (ls : Nat → List Value) (w : World) (hK0 : 0 < K) (hK : K ≤ 10)
    (hc : ∀ i, i < K → w.cell? ⟨g, i, none⟩ = some (.slice (ads i) (ns i) (cs i))) (hr : ∀ i, i < K → Rd w (ads i) (ns i) (cs i) (ls i)) (hb : ∀ i, i < K → ns i ≤ 10000) :
    Calls Try.prog 72 #[.slice (some ⟨g, 0, none⟩) K c] w (CatPost w (psum ns K) (pcat ls K)) := by
  obtain ⟨i0, hi, hz0, hz1, hz2⟩ := info_parts info_int
  have HC := Lib.hid hc
  have HR := Lib.hid hr
  have HB := Lib.hid hb
  have hgl : g < w.heap.size := World.block_lt_of_cell? w _ (hc 0 hK0)
  have HP := Lib.hid (psum_le hb)
  have kg := Lib.hid (grow_any (psum ns K) w (by have := psum_le hb K (Nat.le_refl _); omega))
  clear hc hr hb
  go_enter Try.func72, Try.ntmps72
  go_wp2_with fail
  go_loopg [3, 11] K (fun gk v3 v11 wr => w = wr ∧ ∃ i : Nat, v11 = .int .i64 i ∧ gk + i = K ∧ v3 = .int .i64 (psum ns i : Nat))
  case atStart => exact ⟨rfl, 0, rfl, rfl, rfl⟩
  case round =>
    obtain ⟨rfl, i, rfl, hgk, rfl⟩ := hrel
    have Hgk := Lib.hid hgk
    have hik : i ≤ K := by omega
    have hsb : psum ns i ≤ 100000 := by have := HP.out i hik; omega
    clear hgk
    by_cases hlt : i < K
    · have xC := HC.out i hlt
      have hn := HB.out i hlt
      obtain ⟨s, hs⟩ : ∃ s, s = psum ns i := ⟨_, rfl⟩
      obtain ⟨n, hn'⟩ : ∃ n, n = ns i := ⟨_, rfl⟩
      rw [← hs] at hsb ⊢
      rw [← hn'] at hn xC
      have Hs := Lib.hid hs
      have Hn := Lib.hid hn'
      clear hs hn'
      go_wp2_with fail
      go_roundg (gk - 1)
      case measure => have := Hgk.out; omega
      case rel => exact ⟨rfl, i + 1, by go_num, by have := Hgk.out; omega, congrArg (Value.int .i64) (by show _ = ((psum ns i + ns i : Nat) : Int); rw [← Hs.out, ← Hn.out]; omega)⟩
    · obtain rfl : K = i := by omega
      go_wp2_with fail
      refine (kg.out).mono ?_
      rintro ee w1 ⟨a, cc, rfl, ho1, hb1⟩
      have hfin : CatLoop w K ns ls K (.slice a 0 cc) (.int .i64 (0 : Nat)) w1 := ⟨0, a, cc, rfl, rfl, rfl, ho1, hb1⟩
      have Hfin := Lib.hid hfin
      clear ho1 hb1 hfin
      go_wp2_with fail
      go_loopg [6, 27] K (fun gk v6 v27 wr => CatLoop w K ns ls gk v6 v27 wr)
      case atStart => exact Hfin.out
      case round =>
        obtain ⟨i, a, cc, rfl, hgk, rfl, ho, hb⟩ := hrel
        have Hgk2 := Lib.hid hgk
        have hik : i ≤ K := by omega
        have hsb : psum ns i ≤ 100000 := by have := HP.out i hik; omega
        have Hb := Lib.hid hb
        have Ho := Lib.hid ho
        have hws : w.heap.size ≤ wr.heap.size := hb.size
        clear hgk hb ho
        by_cases hlt : i < K
        · have xC := (Hb.out.cell (p := ⟨g, i, none⟩) hgl).trans (HC.out i hlt)
          have hn := HB.out i hlt
          have hR := (HR.out i hlt).below Hb.out
          obtain ⟨s, hs⟩ : ∃ s, s = psum ns i := ⟨_, rfl⟩
          obtain ⟨q, hq⟩ : ∃ q, q = pcat ls i := ⟨_, rfl⟩
          obtain ⟨n, hn'⟩ : ∃ n, n = ns i := ⟨_, rfl⟩
          obtain ⟨l, hl'⟩ : ∃ l, l = ls i := ⟨_, rfl⟩
          obtain ⟨k, hk'⟩ : ∃ k, k = cs i := ⟨_, rfl⟩
          obtain ⟨ad, had⟩ : ∃ ad, ad = ads i := ⟨_, rfl⟩
          have hnext : psum ns (i + 1) = s + n ∧ pcat ls (i + 1) = q ++ l := ⟨by rw [hs, hn']; rfl, by rw [hq, hl']; rfl⟩
          rw [← hs, ← hq] at Ho
          rw [← hs] at hsb ⊢
          rw [← hn'] at hn
          rw [← hn', ← hl', ← hk', ← had] at hR
          rw [← hn', ← hk', ← had] at xC
          have Hnext := Lib.hid hnext
          have Hl := Lib.hid (show l.length = n * 1 from hR.1)
          have H1 := Lib.hid hR.2.1
          clear hs hq hn' hl' hk' had hnext
          rcases hR.2.2 with ⟨ha, hn0, hcc⟩ | ⟨x, ha, hrd⟩
          · have hl0 : l = [] := List.length_eq_zero_iff.1 (by rw [Hl.out, hn0])
            have hfin : CatLoop w K ns ls (gk - 1) (.slice a s cc) (.int .i64 ((i + 1 : Nat) : Int)) wr := by
              have e1 : psum ns (i + 1) = s := by rw [Hnext.out.1, hn0]; rfl
              have e2 : pcat ls (i + 1) = q := by rw [Hnext.out.2, hl0, List.append_nil]
              exact ⟨i + 1, a, cc, rfl, by have := Hgk2.out; omega, by rw [e1], by rw [e1, e2]; exact Ho.out, Hb.out⟩
            have Hfin := Lib.hid hfin
            obtain rfl := ha
            obtain rfl := hcc
            subst hn0
            clear hfin hl0 hR
            go_wp2_with (first
              | (at_builtin; refine wpList_append_own_none rfl (.tmp 31) (.tmp 32) 23 rfl w.heap.size 3 i0 1 Try.underlying23 hi _ s q rfl Ho.out rfl ?_))
            go_roundg (gk - 1)
            case measure => have := Hgk2.out; omega
            case rel => exact Hfin.out
          · have Hrd := Lib.hid hrd
            obtain rfl := ha
            clear hR hrd
            go_wp2_with (first
              | (at_builtin; refine wpList_append_own _ rfl (.tmp 31) (.tmp 32) 23 rfl w.heap.size 3 i0 (.int .i64 0) 1 8 Try.underlying23 hi hz0 hz1 hz2 rfl (by decide) _ s q rfl Ho.out x n _ l rfl Hl.out Hrd.out H1.out (by unfold maxLen; omega) (by omega) (by omega) ?_; intro v1 w2 ho2 hg2 _))
            obtain ⟨a2, cc2, rfl⟩ := own_shape ho2
            have hfin : CatLoop w K ns ls (gk - 1) (.slice a2 (s + n) cc2) (.int .i64 ((i + 1 : Nat) : Int)) w2 := by
              refine ⟨i + 1, a2, cc2, rfl, by have := Hgk2.out; omega, by rw [Hnext.out.1], by rw [Hnext.out.1, Hnext.out.2]; exact ho2, Hb.out.grown hg2 hws (fun r e => (Ho.out.lt r e).1)⟩
            have Hfin := Lib.hid hfin
            clear hfin ho2 hg2
            go_wp2_with fail
            go_roundg (gk - 1)
            case measure => have := Hgk2.out; omega
            case rel => exact Hfin.out
        · obtain rfl : K = i := by omega
          go_wp2_with fail
          go_ret
          exact ⟨a, cc, rfl, Ho.out, Hb.out⟩


theorem concat3_any (g c : Nat) (a1 a2 a3 : Option Addr) (n1 c1 n2 c2 n3 c3 : Nat) (l1 l2 l3 : List Value) (w : World)
    (h1 : w.cell? ⟨g, 0, none⟩ = some (.slice a1 n1 c1)) (h2 : w.cell? ⟨g, 1, none⟩ = some (.slice a2 n2 c2)) (h3 : w.cell? ⟨g, 2, none⟩ = some (.slice a3 n3 c3)) (r1 : Rd w a1 n1 c1 l1) (r2 : Rd w a2 n2 c2 l2) (r3 : Rd w a3 n3 c3 l3) (b1 : n1 ≤ 10000) (b2 : n2 ≤ 10000) (b3 : n3 ≤ 10000) :
    Calls Try.prog 72 #[.slice (some ⟨g, 0, none⟩) 3 c] w (CatPost w (n1 + n2 + n3) (l1 ++ l2 ++ l3)) := by
  have hcase : ∀ {j : Nat}, j < 3 → j = 0 ∨ j = 1 ∨ j = 2 := fun h => by omega
  have h := concat_any 3 g c (fun j => match j with | 0 => a1 | 1 => a2 | _ => a3) (fun j => match j with | 0 => n1 | 1 => n2 | _ => n3) (fun j => match j with | 0 => c1 | 1 => c2 | _ => c3) (fun j => match j with | 0 => l1 | 1 => l2 | _ => l3) w (by decide) (by decide)
    (fun j hj => by
      rcases hcase hj with rfl | rfl | rfl
      · exact h1
      · exact h2
      · exact h3) (fun j hj => by
      rcases hcase hj with rfl | rfl | rfl
      · exact r1
      · exact r2
      · exact r3) (fun j hj => by
      rcases hcase hj with rfl | rfl | rfl
      · exact b1
      · exact b2
      · exact b3)
  have e1 : psum (fun j => match j with | 0 => n1 | 1 => n2 | _ => n3) 3 = n1 + n2 + n3 := by simp [psum]
  have e2 : pcat (fun j => match j with | 0 => l1 | 1 => l2 | _ => l3) 3 = l1 ++ l2 ++ l3 := by simp [pcat]
  rw [e1, e2] at h
  exact h

theorem concat2_any (g c : Nat) (a1 a2 : Option Addr) (n1 c1 n2 c2 : Nat) (l1 l2 : List Value) (w : World)
    (h1 : w.cell? ⟨g, 0, none⟩ = some (.slice a1 n1 c1)) (h2 : w.cell? ⟨g, 1, none⟩ = some (.slice a2 n2 c2)) (r1 : Rd w a1 n1 c1 l1) (r2 : Rd w a2 n2 c2 l2) (b1 : n1 ≤ 10000) (b2 : n2 ≤ 10000) :
    Calls Try.prog 72 #[.slice (some ⟨g, 0, none⟩) 2 c] w (CatPost w (n1 + n2) (l1 ++ l2)) := by
  have hcase : ∀ {j : Nat}, j < 2 → j = 0 ∨ j = 1 := fun h => by omega
  have h := concat_any 2 g c (fun j => match j with | 0 => a1 | _ => a2) (fun j => match j with | 0 => n1 | _ => n2) (fun j => match j with | 0 => c1 | _ => c2) (fun j => match j with | 0 => l1 | _ => l2) w (by decide) (by decide)
    (fun j hj => by
      rcases hcase hj with rfl | rfl
      · exact h1
      · exact h2) (fun j hj => by
      rcases hcase hj with rfl | rfl
      · exact r1
      · exact r2) (fun j hj => by
      rcases hcase hj with rfl | rfl
      · exact b1
      · exact b2)
  have e1 : psum (fun j => match j with | 0 => n1 | _ => n2) 2 = n1 + n2 := by simp [psum]
  have e2 : pcat (fun j => match j with | 0 => l1 | _ => l2) 2 = l1 ++ l2 := by simp [pcat]
  rw [e1, e2] at h
  exact h

/-- A slice of numbers that can be read. -/
theorem Rd.of_at {w : World} {b o n c : Nat} {xs : List Int} (hl : xs.length = n) (h : At w b o xs) : Rd w (some ⟨b, o, none⟩) n c (ints xs) := by
  refine ⟨by rw [ints_len, hl, Nat.mul_one], fun u hu => ?_, .inr ⟨_, rfl, fun j u hj => ?_⟩⟩
  · simp only [ints, List.mem_map] at hu
    obtain ⟨x, _, rfl⟩ := hu
    rfl
  · have hjl : j < xs.length := by
      rcases Nat.lt_or_ge j xs.length with h1 | h1
      · exact h1
      · rw [List.getElem?_eq_none (by rw [ints_len]; exact h1)] at hj; cases hj
    rw [ints_get xs j hjl] at hj
    cases hj
    rw [Addr.add_lit]
    exact h j hjl
theorem Rd.of_sl {w : World} {a : Option Addr} {n c : Nat} {xs : List Int} (h : Sl w a n c xs) (hs : a.isSome = true) : Rd w a n c (ints xs) := by
  rcases Nat.eq_zero_or_pos n with h0 | h0
  · have hx : xs = [] := List.length_eq_zero_iff.1 (by rw [h.1, h0])
    obtain ⟨x, rfl⟩ := Option.isSome_iff_exists.1 hs
    subst hx h0
    exact ⟨rfl, fun u hu => (by cases hu), .inr ⟨x, rfl, fun j u hj => by simp [ints] at hj⟩⟩
  · obtain ⟨b, o, rfl, hat⟩ := h.2.2.2 h0
    exact Rd.of_at h.1 hat
end CI
end Go.Proofs.Ytnacndlfjlibmaa

/- RowD -/
/- Lists of numbers: what is dropped, by the program. -/
namespace Go.Proofs.Ytnacndlfjlibmaa
open Go.RowKit

def dropPl (xs : List Int) (V : Int) : Bool := decide ((0 ≤ V ∧ V < xs.length) ∧ xs.getD V.toNat 0 ≠ 0)
def dropFit (xs : List Int) (V : Int) (ys : List Int) : Bool := decide ((ys.length : Int) = xs.length - 1 - V) && upTo 9999 ys
def dropOk (xs : List Int) (V : Int) (ys : List Int) : Bool := (rowB xs && dropPl xs V) && dropFit xs V ys
def dropRow (xs : List Int) (V : Int) (ys : List Int) : List Int := if dropOk xs V ys = true then xs.take V.toNat ++ (xs.getD V.toNat 0 - 1) :: ys else []
theorem dropOk_1 {xs ys : List Int} {V : Int} (h : rowB xs = false) : dropOk xs V ys = false := by rw [dropOk, h]; rfl
theorem dropOk_2 {xs ys : List Int} {V : Int} (h : dropPl xs V = false) : dropOk xs V ys = false := by rw [dropOk, h, Bool.and_false, Bool.false_and]
theorem dropOk_3 {xs ys : List Int} {V : Int} (h : dropFit xs V ys = false) : dropOk xs V ys = false := by rw [dropOk, h, Bool.and_false]
theorem dropOk_4 {xs ys : List Int} {V : Int} (h1 : rowB xs = true) (h2 : dropPl xs V = true) (h3 : dropFit xs V ys = true) : dropOk xs V ys = true := by rw [dropOk, h1, h2, h3]; rfl
theorem dropOk_in {xs ys : List Int} {V : Int} (h : dropOk xs V ys = true) : rowB xs = true ∧ dropPl xs V = true ∧ dropFit xs V ys = true := by
  rw [dropOk, Bool.and_eq_true, Bool.and_eq_true] at h
  exact ⟨h.1.1, h.1.2, h.2⟩
theorem dropRow_no {xs ys : List Int} {V : Int} (h : dropOk xs V ys = false) : dropRow xs V ys = [] := by rw [dropRow, if_neg (by rw [h]; simp)]
theorem dropRow_yes {xs ys : List Int} {V : Int} (h : dropOk xs V ys = true) : dropRow xs V ys = xs.take V.toNat ++ (xs.getD V.toNat 0 - 1) :: ys := by rw [dropRow, if_pos h]
theorem dropPl_true {xs : List Int} {V : Int} : dropPl xs V = true ↔ (0 ≤ V ∧ V < xs.length) ∧ xs.getD V.toNat 0 ≠ 0 := by rw [dropPl, decide_eq_true_eq]
theorem dropPl_false {xs : List Int} {V : Int} (h : ¬ ((0 ≤ V ∧ V < xs.length) ∧ xs.getD V.toNat 0 ≠ 0)) : dropPl xs V = false := by rw [dropPl, decide_eq_false h]
theorem dropFit_true {xs ys : List Int} {V : Int} : dropFit xs V ys = true ↔ (ys.length : Int) = xs.length - 1 - V ∧ upTo 9999 ys = true := by rw [dropFit, Bool.and_eq_true, decide_eq_true_eq]
theorem dropFit_len {xs ys : List Int} {V : Int} (h : (ys.length : Int) ≠ xs.length - 1 - V) : dropFit xs V ys = false := by rw [dropFit, decide_eq_false h]; rfl
theorem dropFit_up {xs ys : List Int} {V : Int} (h : upTo 9999 ys = false) : dropFit xs V ys = false := by rw [dropFit, h, Bool.and_false]
theorem dropRow_len (xs : List Int) (V : Int) (ys : List Int) : (dropRow xs V ys).length ≤ 1000 := by
  cases h : dropOk xs V ys with
  | false => rw [dropRow_no h]; decide
  | true =>
    obtain ⟨h1, h2, h3⟩ := dropOk_in h
    have h4 := (rowB_true.1 h1).1
    have h5 := (dropPl_true.1 h2).1
    have h6 := (dropFit_true.1 h3).1
    rw [dropRow_yes h]
    simp
    omega

theorem drop_cells (w : World) (x : Int) (V1 V2 V3 : Value) (t1 t2 : TypeId) :
    (((w.alloc (.cells #[.int .i64 x] t1)).alloc (.cells #[V1, V2, V3] t2)).drew).cell? ⟨w.heap.size + 1, 0, none⟩ = some V1 ∧
    (((w.alloc (.cells #[.int .i64 x] t1)).alloc (.cells #[V1, V2, V3] t2)).drew).cell? ⟨w.heap.size + 1, 1, none⟩ = some V2 ∧
    (((w.alloc (.cells #[.int .i64 x] t1)).alloc (.cells #[V1, V2, V3] t2)).drew).cell? ⟨w.heap.size + 1, 2, none⟩ = some V3 ∧
    CI.Rd (((w.alloc (.cells #[.int .i64 x] t1)).alloc (.cells #[V1, V2, V3] t2)).drew) (some ⟨w.heap.size, 0, none⟩) 1 1 [.int .i64 x] := by
  have h3 : ∀ i, (((w.alloc (.cells #[.int .i64 x] t1)).alloc (.cells #[V1, V2, V3] t2)).drew).cell? ⟨w.heap.size + 1, i, none⟩ = #[V1, V2, V3][i]? := fun i => by
    show ((w.alloc (.cells #[.int .i64 x] t1)).alloc (.cells #[V1, V2, V3] t2)).cell? _ = _
    exact Joins.cell_alloc_mark_at _ _ _ _ _ _ (by simp)
  have h2 : ∀ i, (((w.alloc (.cells #[.int .i64 x] t1)).alloc (.cells #[V1, V2, V3] t2)).drew).cell? ⟨w.heap.size, i, none⟩ = #[.int .i64 x][i]? := fun i => by
    show ((w.alloc (.cells #[.int .i64 x] t1)).alloc (.cells #[V1, V2, V3] t2)).cell? _ = _
    rw [World.cell?_alloc_past _ _ _ (by simp)]
    exact Joins.cell_alloc_mark_at _ _ _ _ _ _ rfl
  refine ⟨h3 0, h3 1, h3 2, CI.Rd.of_at (xs := [x]) rfl (fun j hj => ?_)⟩
  simp at hj
  subst hj
  exact h2 0

set_option maxHeartbeats 4000000 in
theorem impl_RowDrop (a1 a2 : Option Addr) (n1 c1 n2 c2 : Nat) (xs : List Int) (V : Int) (ys : List Int) (w : World) (hx : Sl w a1 n1 c1 xs) (hy : Sl w a2 n2 c2 ys) (hv0 : -9223372036854775808 ≤ V) (hv1 : V ≤ 9223372036854775807) (hs : a2.isSome = true := by rfl) :
    Calls Try.prog 31 #[.slice a1 n1 c1, .int .i64 V, .slice a2 n2 c2] w (OrdOkPost w (dropRow xs V ys) (dropOk xs V ys)) := by
  have k1 := Lib.hid (iRowValid_any a1 n1 c1 xs w hx)
  have hn9 : n2 ≤ 9223372036854775807 := by have h2 := hy.2.1; have h3 := hy.2.2.1; unfold maxLen at h3; omega
  obtain ⟨r, hr⟩ : ∃ r, r = dropRow xs V ys := ⟨_, rfl⟩
  obtain ⟨o, ho⟩ : ∃ o, o = dropOk xs V ys := ⟨_, rfl⟩
  have hno : dropOk xs V ys = false → r = [] ∧ o = false := fun h => ⟨by rw [hr, dropRow_no h], by rw [ho, h]⟩
  have hyes : dropOk xs V ys = true → r = xs.take V.toNat ++ (xs.getD V.toNat 0 - 1) :: ys ∧ o = true := fun h => ⟨by rw [hr, dropRow_yes h], by rw [ho, h]⟩
  rw [← hr, ← ho]
  clear hr ho
  rcases row_tf xs with h1 | h1
  · rw [h1] at k1
    have hl := (rowB_true.1 h1).1
    rw [hx.1] at hl
    by_cases hp : 0 ≤ V ∧ V < n1
    · obtain ⟨v, rfl⟩ := Int.eq_ofNat_of_zero_le hp.1
      have hvn : v < n1 := by omega
      obtain ⟨b, off, rfl, hat⟩ := hx.2.2.2 (by omega)
      have hvx : v < xs.length := by rw [hx.1]; exact hvn
      have y0 := hat v hvx
      have hx9 := upTo_get (rowB_true.1 h1).2 hvx
      obtain ⟨d, hd⟩ := Int.eq_ofNat_of_zero_le hx9.1
      have hd9 : d ≤ 9999 := by have := hx9.2; omega
      rw [hd] at y0
      by_cases hd0 : d = 0
      · subst hd0
        obtain ⟨rfl, rfl⟩ := hno (dropOk_2 (dropPl_false (fun h => h.2 (by rw [Int.toNat_natCast]; exact hd))))
        have hz : (((0 : Nat) : Int) == 0) = true := rfl
        clear hx hy hno hyes h1 hl hp hat hvx hx9 hd
        go_enter Try.func31, Try.ntmps31
        go_wp2_with fail
        refine (k1.out).mono ?_
        rintro ee wx ⟨rfl, rfl⟩
        go_wp2_with fail
        go_ret2
        exact OrdOkPost.nil (nil_own _ _) (Below.refl _ _)
      · have hpl : dropPl xs (v : Int) = true := dropPl_true.2 ⟨by rw [hx.1]; exact hp, by rw [Int.toNat_natCast, hd]; omega⟩
        have hdz : ((d : Int) == 0) = false := by simp; omega
        obtain ⟨m1, hm1⟩ : ∃ m1, n1 = m1 + 1 := ⟨n1 - 1, by omega⟩
        obtain ⟨t, ht⟩ : ∃ t, m1 = t + v := ⟨m1 - v, by omega⟩
        have hj1 : IntKind.i64.wrap ((n1 : Int) - 1) = (m1 : Int) := by rw [IntWalk.i64_in _ (by omega)]; omega
        have hj2 : (n1 : Int) - 1 = (m1 : Int) := by omega
        have hk1 : IntKind.i64.wrap ((m1 : Int) - (v : Int)) = (t : Int) := by rw [IntWalk.i64_in _ (by omega)]; omega
        have hk2 : (m1 : Int) - (v : Int) = (t : Int) := by omega
        by_cases hlen : n2 = t
        · have k2 := Lib.hid (fun wx h => allUpTo_any a2 n2 c2 ys 9999 wx (by omega) h)
          rcases up_tf 9999 ys with h2 | h2
          · obtain ⟨hr, ho⟩ := hyes (dropOk_4 h1 hpl (dropFit_true.2 ⟨by rw [hx.1, hy.1]; omega, h2⟩))
            rw [Int.toNat_natCast, hd] at hr
            obtain ⟨d1, hd1⟩ : ∃ d1, d = d1 + 1 := ⟨d - 1, by omega⟩
            have hq1 : IntKind.i64.wrap ((d : Int) - 1) = (d1 : Int) := by rw [IntWalk.i64_in _ (by omega)]; omega
            have hq3 : IntKind.i64.wrap (d1 : Int) = (d1 : Int) := IntWalk.i64_in _ (by omega)
            have hq2 : (d : Int) - 1 = (d1 : Int) := by omega
            rw [hq2] at hr
            have HR := Lib.hid hr
            subst ho
            rw [h2] at k2
            have hne : ((n2 : Int) != (t : Int)) = false := by simp; omega
            have hvc : v ≤ c1 := by have := hx.2.1; omega
            have hvc1 : (v : Int) ≤ (c1 : Int) := by omega
            have hv00 : (0 : Int) ≤ (v : Int) := by omega
            have Hat := Lib.hid hat
            have HY := Lib.hid hy
            have HX1 := Lib.hid hx.1
            have Hd1 := Lib.hid hd1
            have hbl : b < w.heap.size := hat.lt (by intro h9; rw [h9] at hvx; simp at hvx)
            have HL := Lib.hid (show v + 1 + n2 = r.length by rw [hr]; simp [hy.1]; omega)
            have hv5 : v ≤ 5 := by omega
            have hn25 : n2 ≤ 5 := by omega
            clear hx hy hno hyes h1 hp hat hvx hx9 hd hr h2 hpl hlen hm1 ht hd1
            go_enter Try.func31, Try.ntmps31
            go_wp2_with fail
            refine (k1.out).mono ?_
            rintro ee wx ⟨rfl, rfl⟩
            go_wp2_with fail
            refine (k2.out _ HY.out).mono ?_
            rintro ee wx ⟨rfl, rfl⟩
            have HBW := Lib.hid ((((Below.refl w.heap.size w).alloc (Nat.le_refl _) (.cells #[.int .i64 (d1 : Int)] 3)).alloc (by simp) (.cells #[.slice (some ⟨b, off, none⟩) v c1, .slice (some ⟨w.heap.size, 0, none⟩) 1 1, .slice a2 n2 c2] 23)).drew)
            have HC := Lib.hid (drop_cells w (d1 : Int) (.slice (some ⟨b, off, none⟩) v c1) (.slice (some ⟨w.heap.size, 0, none⟩) 1 1) (.slice a2 n2 c2) 3 23)
            have HR1 := Lib.hid (CI.Rd.below (CI.Rd.of_at (c := c1) (xs := xs.take v) (n := v) (by rw [List.length_take, HX1.out]; omega) (Hat.out.take v)) HBW.out)
            have HR3 := Lib.hid (CI.Rd.below (CI.Rd.of_sl HY.out hs) HBW.out)
            go_wp2_with fail
            go_region_held3 (fun w' => w'.cell? ⟨b, off + v, none⟩ = some (.int .i64 (d : Int))) (first | go_keep | exact kS0)
              ((first
                | (go_at_call 72; (refine (CI.concat3_any (w.heap.size + 1) 3 (some ⟨b, off, none⟩) (some ⟨w.heap.size, 0, none⟩) a2 v c1 1 1 n2 c2 (ints (xs.take v)) [.int .i64 (d1 : Int)] (ints ys) _ HC.out.1 HC.out.2.1 HC.out.2.2.1 HR1.out HC.out.2.2.2 HR3.out (by omega) (by omega) (by omega)).mono ?_); rintro ee w5 ⟨a5, c5, rfl, ho5, hb5⟩; have kS0 := (hb5.cell (p := ⟨b, off + v, none⟩) (by simp; omega)).trans ((HBW.out.cell (p := ⟨b, off + v, none⟩) hbl).trans y0))))
            have hfin : OrdOkPost w r true (.returned (.tuple #[.slice a5 (v + 1 + n2) c5, .bool true])) w5 := by
              rw [HL.out]
              refine ⟨a5, c5, rfl, ?_, HBW.out.trans (hb5.mono HBW.out.size)⟩
              have h9 := Joins.ownsRow_le ho5 HBW.out.size
              rw [HL.out] at h9
              have e9 : ints r = ints (xs.take v) ++ [.int .i64 (d1 : Int)] ++ ints ys := by rw [HR.out]; simp [ints]
              rw [e9]
              exact h9
            have Hfin := Lib.hid hfin
            clear hfin ho5 hb5 kS0
            go_wp2_with fail
            go_ret2
            exact Hfin.out
          · obtain ⟨rfl, rfl⟩ := hno (dropOk_3 (dropFit_up h2))
            rw [h2] at k2
            have hne : ((n2 : Int) != (t : Int)) = false := by simp; omega
            have HY := Lib.hid hy
            clear hx hy hno hyes h1 hp hat hvx hx9 hd h2 hpl hlen hm1 ht
            go_enter Try.func31, Try.ntmps31
            go_wp2_with fail
            refine (k1.out).mono ?_
            rintro ee wx ⟨rfl, rfl⟩
            go_wp2_with fail
            refine (k2.out _ HY.out).mono ?_
            rintro ee wx ⟨rfl, rfl⟩
            go_wp2_with fail
            go_ret2
            exact OrdOkPost.nil (nil_own _ _) (Below.refl _ _)
        · obtain ⟨rfl, rfl⟩ := hno (dropOk_3 (dropFit_len (by rw [hx.1, hy.1]; omega)))
          have hne : ((n2 : Int) != (t : Int)) = true := by simp; omega
          clear hx hy hno hyes h1 hp hat hvx hx9 hd hpl hlen hm1 ht
          go_enter Try.func31, Try.ntmps31
          go_wp2_with fail
          refine (k1.out).mono ?_
          rintro ee wx ⟨rfl, rfl⟩
          go_wp2_with fail
          go_ret2
          exact OrdOkPost.nil (nil_own _ _) (Below.refl _ _)
    · obtain ⟨rfl, rfl⟩ := hno (dropOk_2 (dropPl_false (fun h => hp (by rw [hx.1] at h; exact h.1))))
      by_cases hp0 : V < 0
      · clear hx hy hno hyes h1 hp
        go_enter Try.func31, Try.ntmps31
        go_wp2_with fail
        refine (k1.out).mono ?_
        rintro ee wx ⟨rfl, rfl⟩
        go_wp2_with fail
        go_ret2
        exact OrdOkPost.nil (nil_own _ _) (Below.refl _ _)
      · have hp1 : (n1 : Int) ≤ V := by omega
        clear hx hy hno hyes h1 hp
        go_enter Try.func31, Try.ntmps31
        go_wp2_with fail
        refine (k1.out).mono ?_
        rintro ee wx ⟨rfl, rfl⟩
        go_wp2_with fail
        go_ret2
        exact OrdOkPost.nil (nil_own _ _) (Below.refl _ _)
  · rw [h1] at k1
    obtain ⟨rfl, rfl⟩ := hno (dropOk_1 h1)
    clear hx hy hno hyes h1
    go_enter Try.func31, Try.ntmps31
    go_wp2_with fail
    refine (k1.out).mono ?_
    rintro ee wx ⟨rfl, rfl⟩
    go_wp2_with fail
    go_ret2
    exact OrdOkPost.nil (nil_own _ _) (Below.refl _ _)

end Go.Proofs.Ytnacndlfjlibmaa

/- RowO -/
/- Lists of numbers: their ordinals, by the program. -/
namespace Go.Proofs.Ytnacndlfjlibmaa
open Go.RowKit

namespace T
theorem ofDigs_ok {xs : List Int} {t : Nat} (h : xs.length ≤ t) : ok (some (numT t)) (ofDigs numT xs) := by
  induction xs with
  | nil => exact ok_z _
  | cons x xs ih =>
    simp only [List.length_cons] at h
    by_cases hx : x = 0
    · subst hx; rw [ofDigs_skip]; exact ih (by omega)
    · rw [ofDigs_next hx]; exact ok_c.2 (numT_lt (by omega))
theorem ofDigs_nf {xs : List Int} (hl : xs.length ≤ 9999) (h : ∀ x ∈ xs, 0 ≤ x ∧ x ≤ 9999) : (ofDigs numT xs).Nf := by
  induction xs with
  | nil => trivial
  | cons x xs ih =>
    simp only [List.length_cons] at hl
    have ih' := ih (by omega) (fun y hy => h y (List.mem_cons_of_mem _ hy))
    have hx9 := h x List.mem_cons_self
    by_cases hx : x = 0
    · subst hx; rw [ofDigs_skip]; exact ih'
    · rw [ofDigs_next hx]
      exact ⟨by omega, by omega, numT_nf (by omega), ih', ofDigs_ok (Nat.le_refl _)⟩
theorem ofDigs_cnt {f : Nat → T} (xs : List Int) : (ofDigs f xs).cnt ≤ xs.length := by
  induction xs with
  | nil => exact Nat.le_refl _
  | cons x xs ih =>
    simp only [List.length_cons]
    by_cases hx : x = 0
    · subst hx; rw [ofDigs_skip]; omega
    · rw [ofDigs_next hx, cnt]; omega
theorem ofDigs_blen (xs : List Int) : (ofDigs numT xs).body.length ≤ 4 * xs.length := by
  induction xs with
  | nil => exact Nat.le_refl _
  | cons x xs ih =>
    simp only [List.length_cons]
    by_cases hx : x = 0
    · subst hx; rw [ofDigs_skip]; omega
    · have h1 := numT_len xs.length
      have h2 := enc_len (numT xs.length)
      rw [ofDigs_next hx, body]
      simp
      omega
theorem ofDigs_len (xs : List Int) : (ofDigs numT xs).enc.length ≤ 1 + 4 * xs.length := by
  have h1 := ofDigs_blen xs
  have h2 := enc_len (ofDigs numT xs)
  omega
/-- The ordinal of a list. -/
noncomputable def rowOrd (xs : List Int) : List Int := if rowB xs = true then (ofDigs numT xs).enc else []
theorem rowOrd_in {xs : List Int} (h : rowB xs = true) : rowOrd xs = (ofDigs numT xs).enc := by rw [rowOrd, if_pos h]
theorem rowOrd_out {xs : List Int} (h : rowB xs = false) : rowOrd xs = [] := by rw [rowOrd, if_neg (by rw [h]; simp)]
theorem rowOrd_len (xs : List Int) : (rowOrd xs).length ≤ 1000 := by
  rcases row_tf xs with h | h
  · have h1 := ofDigs_len xs
    have h2 := (rowB_true.1 h).1
    rw [rowOrd_in h]
    omega
  · rw [rowOrd_out h]; decide
theorem rowOrd_fit {xs : List Int} (h : rowB xs = true) : fit (ofDigs numT xs) = rowOrd xs := by
  have h1 := rowB_true.1 h
  have h3 := ofDigs_len xs
  rw [rowOrd_in h, fit, if_pos (vld_mk (ofDigs_nf (by omega) (upTo_true.1 h1.2)) (by omega))]
end T

theorem impl_RowOrdN (ao : Option Addr) (n c : Nat) (xs : List Int) (w : World) (h : Sl w ao n c xs) :
    Calls Try.prog 22 #[.slice ao n c] w (IntPostN w (T.rowOrd xs)) := by
  have k1 := Lib.hid (iRowValid_any ao n c xs w h)
  rcases row_tf xs with h1 | h1
  · rw [h1] at k1
    have hl := (rowB_true.1 h1).1
    have hll := T.ofDigs_len xs
    have kd := ofDigits_any _ (enters_of Try.func27 (by kernel_rfl) rfl) #[] T.numT ao n c xs w h (by rw [h.1] at hl; omega) (upTo_true.1 (rowB_true.1 h1).2) (by omega)
      (fun e _ _ _ _ => by have := T.numT_len e; omega)
      (fun e _ wr _ _ he _ => by
        have he9 : e ≤ 9999 := by rw [h.1] at hl; omega
        have h1 := T.numT_row (e := e) he9
        rw [← h1]
        refine (impl_OrdOf e wr (by omega) (by omega)).mono ?_
        rintro ee wx ⟨a, c, rfl, ho, hbx⟩
        exact ⟨a, c, rfl, ho, hbx⟩)
    rw [T.rowOrd_fit h1] at kd
    have Kd := Lib.hid kd
    obtain ⟨r, hr⟩ : ∃ r, r = T.rowOrd xs := ⟨_, rfl⟩
    rw [← hr] at Kd ⊢
    clear h h1 hl hll kd hr
    go_enter Try.func22, Try.ntmps22
    go_wp2_with fail
    refine (k1.out).mono ?_
    rintro ee wx ⟨rfl, rfl⟩
    go_wp2_with fail
    refine (Kd.out).mono ?_
    rintro ee w3 ⟨a, c, rfl, hnn, ho, hb3⟩
    have hfin : IntPostN w r (.returned (.slice a r.length c)) w3 := ⟨a, c, rfl, hnn, ho, hb3⟩
    have Hfin := Lib.hid hfin
    clear ho hb3 hnn hfin
    go_wp2_with fail
    go_ret
    exact Hfin.out
  · rw [h1] at k1
    rw [T.rowOrd_out h1]
    clear h h1
    go_enter Try.func22, Try.ntmps22
    go_wp2_with fail
    refine (k1.out).mono ?_
    rintro ee wx ⟨rfl, rfl⟩
    go_wp2_with fail
    go_ret
    exact IntPostN.nil (Below.refl _ _)

theorem impl_RowOrd (ao : Option Addr) (n c : Nat) (xs : List Int) (w : World) (h : Sl w ao n c xs) :
    Calls Try.prog 22 #[.slice ao n c] w (IntPost w (T.rowOrd xs)) := (impl_RowOrdN ao n c xs w h).mono (fun _ _ h => h.weak)

end Go.Proofs.Ytnacndlfjlibmaa

/- RowM -/
/- Lists of numbers and their ordinals are in the same order. -/
namespace Go.Proofs.Ytnacndlfjlibmaa
open Go.RowKit
namespace T

theorem cmp_below {q s r : T} {m : Int} (h : ok (some q) r) : r.cmp (c m q s) = -1 := by
  cases r with
  | z => rfl
  | c n e r' =>
    have h1 := ok_c.1 h
    rw [cmp_c, if_neg (by rw [h1]; decide), h1]
theorem cmp_above {q s r : T} {m : Int} (h : ok (some q) r) : (c m q s).cmp r = 1 := by
  have h1 := cmp_below (m := m) (s := s) h
  have h2 := cmp_swap (c m q s) r
  omega

theorem ofDigs_cmp : ∀ (xs ys : List Int), xs.length = ys.length → (∀ x ∈ xs, 0 ≤ x) → (∀ y ∈ ys, 0 ≤ y) → (ofDigs numT xs).cmp (ofDigs numT ys) = cmpL xs ys := by
  intro xs
  induction xs with
  | nil =>
    intro ys hl _ _
    have : ys = [] := List.length_eq_zero_iff.1 hl.symm
    subst this
    rfl
  | cons x xs ih =>
    intro ys hl hx hy
    cases ys with
    | nil => simp at hl
    | cons y ys =>
      have hl' : xs.length = ys.length := by simpa using hl
      have hx0 := hx x List.mem_cons_self
      have hy0 := hy y List.mem_cons_self
      have ih' := ih ys hl' (fun z hz => hx z (List.mem_cons_of_mem _ hz)) (fun z hz => hy z (List.mem_cons_of_mem _ hz))
      by_cases hx1 : x = 0
      · subst hx1
        rw [ofDigs_skip]
        by_cases hy1 : y = 0
        · subst hy1
          rw [ofDigs_skip, cmpL_eq]
          exact ih'
        · rw [ofDigs_next hy1, cmpL_lt (by omega)]
          exact cmp_below (ofDigs_ok (by omega))
      · rw [ofDigs_next hx1]
        by_cases hy1 : y = 0
        · subst hy1
          rw [ofDigs_skip, cmpL_gt (by omega)]
          exact cmp_above (ofDigs_ok (by omega))
        · rw [ofDigs_next hy1, hl', cmp_c, if_pos (cmp_refl _), ih']
          rcases Int.lt_trichotomy x y with h | h | h
          · rw [if_pos h, cmpL_lt h]
          · subst h; rw [if_neg (by omega), if_neg (by omega), cmpL_eq]
          · rw [if_neg (by omega), if_pos h, cmpL_gt h]

theorem rowOrd_vld {xs : List Int} (h : rowB xs = true) : vldB (rowOrd xs) = true := by
  have h1 := rowB_true.1 h
  have h3 := ofDigs_len xs
  rw [rowOrd_in h]
  exact vld_mk (ofDigs_nf (by omega) (upTo_true.1 h1.2)) (by omega)
theorem rowOrd_cmp {xs ys : List Int} (h1 : rowB xs = true) (h2 : rowB ys = true) (hl : xs.length = ys.length) : cmpRow (rowOrd xs) (rowOrd ys) = cmpL xs ys := by
  rw [cmpRow_val (rowOrd_vld h1) (rowOrd_vld h2), rowOrd_in h1, rowOrd_in h2, of_enc, of_enc]
  exact ofDigs_cmp xs ys hl (fun x hx => (upTo_true.1 (rowB_true.1 h1).2 x hx).1) (fun x hx => (upTo_true.1 (rowB_true.1 h2).2 x hx).1)
theorem rowOrd_pos {xs : List Int} (h : rowB xs = true) : 0 < (rowOrd xs).length := by rw [rowOrd_in h, enc_len]; omega
end T

theorem cmpL_swap : ∀ xs ys : List Int, cmpL ys xs = - cmpL xs ys
  | [], [] => rfl
  | [], _ :: _ => rfl
  | _ :: _, [] => rfl
  | x :: xs, y :: ys => by
    rcases Int.lt_trichotomy x y with h | h | h
    · rw [cmpL_lt h, cmpL_gt h]; rfl
    · subst h; rw [cmpL_eq, cmpL_eq, cmpL_swap xs ys]
    · rw [cmpL_lt h, cmpL_gt h]

theorem rowCmp_cases (xs ys : List Int) : rowCmp xs ys = -2 ∨ ((rowB xs = true ∧ rowB ys = true) ∧ xs.length = ys.length ∧ rowCmp xs ys = cmpL xs ys) := by
  by_cases h : (rowB xs = true ∧ rowB ys = true) ∧ xs.length = ys.length
  · exact .inr ⟨h.1, h.2, rowCmp_in h.1.1 h.1.2 h.2⟩
  · exact .inl (by rw [rowCmp, if_neg h])

theorem cmpL_take (v : Nat) (x : Int) (zs ts : List Int) : ∀ xs : List Int, v < xs.length → xs.getD v 0 = x → ts.length = zs.length → xs = xs.take v ++ x :: zs → cmpL (xs.take v ++ (x - 1) :: ts) xs = -1 := by
  induction v with
  | zero =>
    intro xs _ _ _ h
    rw [h]
    simp
    exact cmpL_lt (by omega)
  | succ v ih =>
    intro xs hv hx hl h
    cases xs with
    | nil => simp at hv
    | cons y xs =>
      simp only [List.take_succ_cons, List.cons_append] at h ⊢
      rw [cmpL_eq]
      refine ih xs (by simpa using hv) (by simpa using hx) hl ?_
      exact (List.cons.inj h).2

theorem take_mid {xs : List Int} {v : Nat} (h : v < xs.length) : xs = xs.take v ++ xs.getD v 0 :: xs.drop (v + 1) := by
  rw [getD_at h, ← List.drop_eq_getElem_cons h, List.take_append_drop]

theorem dropRow_less {xs ys : List Int} {V : Int} (h : dropOk xs V ys = true) : rowB (dropRow xs V ys) = true ∧ (dropRow xs V ys).length = xs.length ∧ cmpL (dropRow xs V ys) xs = -1 := by
  obtain ⟨h1, h2, h3⟩ := dropOk_in h
  have h4 := (rowB_true.1 h1)
  have h5 := dropPl_true.1 h2
  have h6 := dropFit_true.1 h3
  obtain ⟨v, rfl⟩ := Int.eq_ofNat_of_zero_le h5.1.1
  have hv : v < xs.length := by omega
  have hx := upTo_get h4.2 hv
  have hl : (dropRow xs (v : Int) ys).length = xs.length := by
    rw [dropRow_yes h, Int.toNat_natCast]
    simp
    omega
  rw [Int.toNat_natCast] at h5
  refine ⟨?_, hl, ?_⟩
  · rw [rowB_in (by rw [hl]; exact h4.1), upTo_true]
    intro z hz
    rw [dropRow_yes h, Int.toNat_natCast] at hz
    rcases List.mem_append.1 hz with hz | hz
    · exact upTo_true.1 h4.2 z (List.mem_of_mem_take hz)
    · rcases List.mem_cons.1 hz with rfl | hz
      · omega
      · exact upTo_true.1 h6.2 z hz
  · rw [dropRow_yes h, Int.toNat_natCast]
    exact cmpL_take v _ (xs.drop (v + 1)) ys xs hv rfl (by rw [List.length_drop]; omega) (take_mid hv)

end Go.Proofs.Ytnacndlfjlibmaa

/- RowN -/
/- The ordinal that follows that of a list, and the power above it. -/
namespace Go.Proofs.Ytnacndlfjlibmaa
open Go.RowKit

/-- One more in the last place. -/
def lastUp (xs : List Int) : List Int := xs.set (xs.length - 1) (xs.getD (xs.length - 1) 0 + 1)
theorem lastUp_cons (x y : Int) (t : List Int) : lastUp (x :: y :: t) = x :: lastUp (y :: t) := by
  unfold lastUp
  simp
namespace T
theorem ofDigs_lastUp : ∀ xs : List Int, xs ≠ [] → (∀ x ∈ xs, 0 ≤ x) → (ofDigs numT xs).next = ofDigs numT (lastUp xs)
  | [], h, _ => absurd rfl h
  | [x], _, h => by
    have hx := h x List.mem_cons_self
    have hu : lastUp [x] = [x + 1] := rfl
    have hn : numT ([] : List Int).length = z := rfl
    rw [hu, ofDigs_next (show x + 1 ≠ 0 by omega), hn]
    by_cases h0 : x = 0
    · subst h0; rw [ofDigs_skip]; rfl
    · rw [ofDigs_next h0, hn]; exact next_n x
  | x :: y :: t, _, h => by
    have ih := ofDigs_lastUp (y :: t) (by simp) (fun z hz => h z (List.mem_cons_of_mem _ hz))
    have hl : (lastUp (y :: t)).length = (y :: t).length := by simp [lastUp]
    rw [lastUp_cons]
    by_cases h0 : x = 0
    · subst h0; rw [ofDigs_skip, ofDigs_skip]; exact ih
    · rw [ofDigs_next h0, ofDigs_next h0, hl, ← ih]
      refine next_c (.inl (fun h9 => ?_))
      unfold numT at h9
      rw [if_neg (by simp)] at h9
      cases h9

theorem rowOrd_next {xs : List Int} (h : rowB xs = true) (h2 : rowB (lastUp xs) = true) : nextRow (rowOrd xs) = rowOrd (lastUp xs) ∧ nextOk (rowOrd xs) = true := by
  have hv := rowOrd_vld h
  have hne : xs ≠ [] := by intro h9; rw [h9] at h; exact absurd h (by decide)
  have he : (of (rowOrd xs)).next = ofDigs numT (lastUp xs) := by
    rw [rowOrd_in h, of_enc]
    exact ofDigs_lastUp xs hne (fun x hx => (upTo_true.1 (rowB_true.1 h).2 x hx).1)
  constructor
  · rw [nextRow, if_pos hv, he, rowOrd_fit h2]
  · rw [nextOk, hv, he, Bool.true_and, ← rowOrd_in h2, rowOrd_vld h2]

theorem rowOrd_top {xs : List Int} (h : rowB xs = true) : cmpRow (rowOrd xs) (powRow (num' (xs.length : Int))) = -1 := by
  have hl := (rowB_true.1 h).1
  have h1 := numT_row (e := xs.length) (by omega)
  have hnl := numT_len xs.length
  have hnf := numT_nf (e := xs.length) (by omega)
  have hcl : (c 1 (numT xs.length) z).enc.length ≤ 60 := by simp [enc, body]; have := enc_len (numT xs.length); omega
  have hcn : (c 1 (numT xs.length) z).Nf := ⟨by decide, by decide, hnf, trivial, ok_z _⟩
  have hp : powRow (num' (xs.length : Int)) = (c 1 (numT xs.length) z).enc := by
    rw [powRow, h1, if_pos (vld_mk hnf (by omega)), of_enc]
    exact fit_yes hcn hcl
  rw [hp, cmpRow_val (rowOrd_vld h) (vld_mk hcn hcl), rowOrd_in h, of_enc, of_enc]
  exact cmp_below (ofDigs_ok (Nat.le_refl _))
end T

end Go.Proofs.Ytnacndlfjlibmaa

/- RowOS -/
/- Lists of numbers: their ordinals, by the model. -/
namespace Go.Proofs.Ytnacndlfjlibmaa
open Go.RowKit

theorem row_sl {w : World} {B n c : Nat} {a : Option Addr} {t : T} {xs : List Value} (h : w.ownsRow B 3 1 (.slice a n c) n xs) (hx : xs = ints t.times) : Sl w a n c t.times := by
  subst hx; exact Sl.of_own h
theorem row_snoc (d f : T) (n : Int) : ints d.times ++ [.int .i64 n] = ints (d.app (.c n f .z)).times := by
  rw [T.times_app]; simp [ints, T.times]
theorem row_none0 {w w1 : World} (hb : Below w.heap.size w w1) : IntPost w [] (.returned (.slice (some ⟨w1.heap.size, 0, none⟩) 0 0)) (w1.alloc (.cells #[] 3)) :=
  ⟨_, 0, rfl, World.ownsRow_lit w1 #[] 0 hb.size (by simp [maxLen]) rfl, hb.alloc hb.size _⟩

def RoS (w : World) (xs : List Int) (n : Nat) (v3 v4 v5 : Value) (wr : World) : Prop :=
  ∃ (i qn : Nat) (q : T) (es : List Value) (a5 a6 : Option Addr) (c5 c6 : Nat), v5 = .int .i64 i ∧ i ≤ n ∧ T.ofDigs T.numT xs = q.app (T.ofDigs T.numT (xs.drop i)) ∧ q.cnt = qn ∧ qn ≤ i ∧ v3 = .slice a5 qn c5 ∧ v4 = .slice a6 qn c6 ∧
    wr.ownsRow w.heap.size 3 1 v3 qn (ints q.times) ∧ wr.ownsRow w.heap.size 23 1 v4 qn es ∧ EF wr v3.ownBlock v4.ownBlock q es ∧ Below w.heap.size w wr

theorem ros_start (w : World) (xs : List Int) (n : Nat) : RoS w xs n (.slice (some ⟨w.heap.size, 0, none⟩) 0 0) (.slice (some ⟨w.heap.size + 1, 0, none⟩) 0 0) (.int .i64 (0 : Nat)) ((w.alloc (.cells #[] 3)).alloc (.cells #[] 23)) := by
  have hL : (w.alloc (.cells #[] 3)).ownsRow w.heap.size 3 1 (.slice (some ⟨w.heap.size, 0, none⟩) 0 0) 0 (ints []) := World.ownsRow_lit w #[] 0 (Nat.le_refl _) (by simp [maxLen]) rfl
  have hL2 := World.ownsRow_lit (base := w.heap.size) (e := 23) (size := 1) (w.alloc (.cells #[] 3)) #[] 0 (by simp) (by simp [maxLen]) rfl
  rw [World.size_alloc] at hL2
  exact ⟨0, 0, .z, [], _, _, 0, 0, rfl, Nat.zero_le _, rfl, rfl, Nat.le_refl _, rfl, rfl, hL.alloc _, hL2, rfl, ((Below.refl _ _).alloc (Nat.le_refl _) _).alloc (by simp) _⟩

set_option maxRecDepth 100000 in
set_option maxHeartbeats 8000000 in
theorem spec_RowOrd (ao : Option Addr) (n c : Nat) (xs : List Int) (w : World) (h : Sl w ao n c xs) :
    Calls Try.prog 25 #[.slice ao n c] w (IntPost w (T.rowOrd xs)) := by
  have k1 := Lib.hid (sRowValid_any ao n c xs w h)
  rcases row_tf xs with h1 | h1
  · obtain ⟨i0, hi, hz0, hz1, hz2⟩ := info_parts info_int
    obtain ⟨j0, hj, hy0, hy1, hy2⟩ := info_parts info_ints
    rw [h1] at k1
    have hl := (rowB_true.1 h1).1
    rw [h.1] at hl
    have hll := T.ofDigs_len xs
    rw [h.1] at hll
    obtain ⟨x1, x2, x3, x4⟩ := h
    obtain ⟨bb, off, rfl, hat⟩ := x4 (by omega)
    have X1 := Lib.hid x1
    have Hat := Lib.hid hat
    have HX := Lib.hid (upTo_true.1 (rowB_true.1 h1).2)
    have hbl : bb < w.heap.size := hat.lt (by intro h9; rw [h9] at x1; simp at x1; omega)
    have HFF := Lib.hid (show ∀ (e : Nat) (wr : World), e ≤ 9999 → Calls Try.prog 65 #[.int .i64 e] wr (IntPost wr (T.numT e).enc) from fun e wr he => by
      have h1 := T.numT_row (e := e) (by omega)
      rw [← h1]
      refine (spec_OrdOf e wr (by omega) (by omega)).mono ?_
      rintro ee wx ⟨a, c, rfl, ho, hbx⟩
      exact ⟨a, c, rfl, ho, hbx⟩)
    obtain ⟨res, hres⟩ : ∃ res, res = T.ofDigs T.numT xs := ⟨_, rfl⟩
    have Hst := Lib.hid (ros_start w xs n)
    rw [T.rowOrd_in h1, ← hres]
    rw [← hres] at hll
    have HR := Lib.hid hres
    have Hlen := Lib.hid hll
    clear h1 x1 x4 hat hres hll
    go_enter Try.func25, Try.ntmps25
    go_wp2_with fail
    refine (k1.out).mono ?_
    rintro ee wx ⟨rfl, rfl⟩
    go_wp2_with fail
    go_loopw [3, 4, 5] (fun v3 v4 v5 wr => RoS w xs n v3 v4 v5 wr) (fun _ _ v5 _ => n - (intOf v5).toNat)
    case atStart => exact Hst.out
    case round =>
      obtain ⟨i, qn, q, es, a5, a6, c5, c6, rfl, hin, hdi, hqn, hqi, rfl, rfl, ho5, ho6, hEF, hbw⟩ := hrel
      have hq30 : qn ≤ 5 := by omega
      have Hdi := Lib.hid hdi
      have Hqn := Lib.hid hqn
      have Ho5 := Lib.hid ho5
      have Ho6 := Lib.hid ho6
      have HEF := Lib.hid hEF
      have Hbw := Lib.hid hbw
      have hws := hbw.size
      clear hdi hqn ho5 ho6 hEF hbw
      by_cases hlt : i < n
      · obtain ⟨n1, hn1⟩ : ∃ n1, n = n1 + 1 := ⟨n - 1, by omega⟩
        obtain ⟨t, ht⟩ : ∃ t, n1 = t + i := ⟨n1 - i, by omega⟩
        have hix : i < xs.length := by rw [X1.out]; exact hlt
        obtain ⟨x, xt, hdx, hdx1⟩ := drop_cons (xs := xs) (a := i) hix
        have y0 := (Hat.out.below Hbw.out hbl).get hdx
        have hxm : x ∈ xs := List.mem_of_mem_drop (by rw [hdx]; exact List.mem_cons_self)
        have hx9 := HX.out x hxm
        have hxt : xt.length = t := by
          have h9 := congrArg List.length hdx
          rw [List.length_drop, X1.out] at h9
          simp at h9
          omega
        obtain ⟨d, rfl⟩ := Int.eq_ofNat_of_zero_le hx9.1
        have hdb : d ≤ 9999 := by omega
        have hj1 : IntKind.i64.wrap ((n : Int) - 1) = (n1 : Int) := by rw [IntWalk.i64_in _ (by omega)]; omega
        have hj2 : (n : Int) - 1 = (n1 : Int) := by omega
        have hk1 : IntKind.i64.wrap ((n1 : Int) - (i : Int)) = (t : Int) := by rw [IntWalk.i64_in _ (by omega)]; omega
        have hk2 : (n1 : Int) - (i : Int) = (t : Int) := by omega
        have Hdx := Lib.hid hdx
        have Hdx1 := Lib.hid hdx1
        have Hxt := Lib.hid hxt
        have Hn1 := Lib.hid hn1
        have Ht := Lib.hid ht
        have ht9 : t ≤ 9999 := by omega
        clear hix hdx hdx1 hxm hx9 hxt hn1 ht
        by_cases hd0 : 0 < d
        · have Hnx := Lib.hid (show T.ofDigs T.numT (xs.drop i) = .c d (T.numT t) (T.ofDigs T.numT (xs.drop (i + 1))) by rw [Hdx.out, T.ofDigs_next (by omega), Hxt.out, Hdx1.out])
          go_wp2_with (first
            | (at_builtin; refine wpList_append_own_at _ rfl (.tmp 23) (.tmp 28) 23 rfl w.heap.size 3 i0 (.int .i64 0) 1 8 Try.underlying23 hi hz0 hz1 hz2 rfl (by decide) _ qn (ints q.times) rfl (Ho5.out.alloc _) ⟨wr.heap.size, 0, none⟩ 1 1 [.int .i64 d] rfl rfl (cell_one_new _ _ _) (ints_oneCell _ [(d : Int)]) (by unfold maxLen; omega) (by omega) (by simp; omega) ?_; intro v1 wa ho1 hg1 _ hat1))
          obtain ⟨a1, c1', rfl, _⟩ := own_form ho1
          have hE1 := HEF.out.below ((Below.refl wr.heap.size wr).alloc (Nat.le_refl _) (.cells #[.int .i64 d] 3))
          obtain ⟨ho6a, hE2⟩ := mul_numbers (Ho5.out.alloc _) (Ho6.out.alloc _) hE1 hg1 hat1
          have hba := (Hbw.out.alloc hws _).grown hg1 (by simp; omega) (fun k h => (Ho5.out.lt k h).1)
          have Ho1 := Lib.hid ho1
          have Ho6a := Lib.hid ho6a
          have HE2 := Lib.hid hE2
          have Hba := Lib.hid hba
          have hwa := hba.size
          have kF := Lib.hid (HFF.out t wa ht9)
          clear ho1 hg1 hat1 hE1 ho6a hE2 hba
          go_wp2_with fail
          refine (kF.out).mono ?_
          rintro ee wb ⟨aN, cN, rfl, hoN, hbN⟩
          obtain ⟨LN, hLN⟩ : ∃ LN, LN = (T.numT t).enc.length := ⟨_, rfl⟩
          rw [← hLN] at hoN ⊢
          have hL0 : 0 < LN := by rw [hLN, T.enc_len]; omega
          obtain ⟨gN, cN', hform⟩ := Joins.ownsRow_form hoN hL0
          simp only [Value.slice.injEq] at hform
          obtain ⟨rfl, _, rfl⟩ := hform
          have hslN := Sl.of_own hoN
          obtain ⟨bN, oN, heN, hatN⟩ := hslN.2.2.2 hL0
          simp only [Option.some.injEq, Addr.mk.injEq, and_true] at heN
          obtain ⟨rfl, rfl⟩ := heN
          have HatN := Lib.hid hatN
          have HcN := Lib.hid (And.intro hslN.2.1 hslN.2.2.1)
          have hgNb : wa.heap.size ≤ gN := (hoN.lt gN rfl).1
          have Ho1b := Lib.hid (ownsRow_below' Ho1.out hbN)
          have Ho6b := Lib.hid (ownsRow_below' Ho6a.out hbN)
          have HE3 := Lib.hid (HE2.out.below hbN)
          have Hbb := Lib.hid (Hba.out.trans (hbN.mono hwa))
          have hwb := Hbb.out.size
          have HLh := Lib.hid hLN
          clear hL0 hLN hslN hatN hoN hbN
          go_wp2_with (first
            | (at_builtin; refine wpList_append_own_at _ rfl (.tmp 30) (.tmp 37) 48 rfl w.heap.size 23 j0 (.slice none 0 0) 1 24 Try.underlying48 hj hy0 hy1 hy2 rfl (by decide) _ qn es rfl (Ho6b.out.alloc _) ⟨wb.heap.size, 0, none⟩ 1 1 [.slice (some ⟨gN, 0, none⟩) LN cN] rfl rfl (cell_one_new _ _ _) (slice_oneCell _ _ _) (by unfold maxLen; omega) (by omega) (by simp; omega) ?_; intro v2 wd ho2 hg2 _ hat2))
          obtain ⟨a2, c2', rfl, _⟩ := own_form ho2
          have hfin : RoS w xs n (.slice a1 (qn + 1) c1') (.slice a2 (qn + 1) c2') (.int .i64 ((i : Int) + 1)) wd := by
            have hE4 := ((HE3.out.below ((Below.refl wb.heap.size wb).alloc (Nat.le_refl _) (.cells #[.slice (some ⟨gN, 0, none⟩) LN cN] 23)))).snoc (n := (d : Int)) (HatN.out.alloc (T.enc_ne (T.numT t)) _) (own_row_lt Ho1.out hgNb) (own_row_lt Ho6a.out hgNb) (by have := HcN.out.1; have := HLh.out; omega) HcN.out.2
            rw [← HLh.out] at hE4
            obtain ⟨ho5', hE5⟩ := mul_exps (Ho1b.out.alloc _) (Ho6b.out.alloc _) hE4 hg2 hat2
            refine ⟨i + 1, qn + 1, q.app (.c d (T.numT t) .z), _, a1, a2, c1', c2', by go_num, by omega, ?_, by rw [T.app_cnt, Hqn.out]; rfl, by omega, rfl, rfl, ?_, ho2, hE5, (Hbb.out.alloc hwb _).grown hg2 (by simp; omega) (fun k h => (Ho6b.out.lt k h).1)⟩
            · rw [Hdi.out, Hnx.out, T.app_assoc]; rfl
            · rw [← row_snoc q (T.numT t) d]; exact ho5'
          have Hfin := Lib.hid hfin
          clear ho2 hg2 hat2 hfin
          go_wp2_with fail
          go_roundw
          case measure => simp [intOf]; omega
          case rel => exact Hfin.out
        · obtain rfl : d = 0 := by omega
          have Hsk := Lib.hid (show T.ofDigs T.numT (xs.drop i) = T.ofDigs T.numT (xs.drop (i + 1)) by rw [Hdx.out, Hdx1.out]; exact T.ofDigs_skip)
          go_wp2_with fail
          go_roundw
          case measure => simp [intOf]; omega
          case rel => exact ⟨i + 1, qn, q, es, a5, a6, c5, c6, by go_num, by omega, by rw [Hdi.out, Hsk.out], Hqn.out, by omega, rfl, rfl, Ho5.out, Ho6.out, HEF.out, Hbw.out⟩
      · obtain rfl : i = n := by omega
        have hrt : q = res := by rw [HR.out, Hdi.out, List.drop_eq_nil_of_le (by rw [X1.out]; exact Nat.le_refl _), T.ofDigs, T.app_z]
        have hql : qn = q.cnt := Hqn.out.symm
        have k5 := Lib.hid (l1Make_any a5 a6 qn c5 c6 q wr (by rw [hrt]; have := Hlen.out; omega) (Ex.of_own Ho6.out HEF.out.ec hql) (row_sl Ho5.out rfl))
        rw [hrt] at k5
        clear hrt hql
        go_wp2_with fail
        refine (k5.out).mono ?_
        rintro ee w5 ⟨a3, c3, rfl, ho3, hb5⟩
        have hfin : IntPost w res.enc (.returned (.slice a3 res.enc.length c3)) w5 :=
          ⟨a3, c3, rfl, Joins.ownsRow_le ho3 hws, Hbw.out.trans (hb5.mono hws)⟩
        have Hfin := Lib.hid hfin
        clear ho3 hb5 hfin
        go_wp2_with fail
        go_ret
        exact Hfin.out
  · rw [h1] at k1
    rw [T.rowOrd_out h1]
    clear h h1
    go_enter Try.func25, Try.ntmps25
    go_wp2_with fail
    refine (k1.out).mono ?_
    rintro ee wx ⟨rfl, rfl⟩
    go_wp2_with fail
    go_ret
    exact row_none0 (Below.refl _ _)

end Go.Proofs.Ytnacndlfjlibmaa

/- DrawRow -/
/- What the laws of chapter 6 draw: lists. -/
namespace Go.Proofs.Ytnacndlfjlibmaa
open Go.RowKit

/-- A list that was drawn. -/
def RowDrw (w : World) (g P : Nat) (e : Ending) (w' : World) : Prop :=
  ∃ (xs : List Int) (g' n c : Nat), n = xs.length ∧ e = .returned (.slice (some ⟨g', 0, none⟩) n c) ∧ w'.ownsRow w.heap.size 3 1 (.slice (some ⟨g', 0, none⟩) n c) n (ints xs) ∧
    n ≤ 6 ∧ RdOk w' g (P + 20) ∧ w.grownBy w' (some g)

def RwRel (w : World) (g P L k : Nat) (v7 v8 : Value) (wr : World) : Prop :=
  ∃ (i : Nat) (xs : List Int) (g1 c1 : Nat), v8 = .int .i64 i ∧ k + i = L ∧ xs.length = i ∧ v7 = .slice (some ⟨g1, 0, none⟩) i c1 ∧ wr.ownsRow w.heap.size 3 1 v7 i (ints xs) ∧ RdOk wr g (P + i) ∧ w.grownBy wr (some g)

theorem rw_fin {w w7 w8 : World} {g P n g' c : Nat} {xs : List Int} (h0 : w.grownBy w7 (some g)) (hg : w7.grownBy w8 none) (hr : RdOk w7 g (P + 20)) (hn : n = xs.length) (hl : n ≤ 6)
    (ho : w8.ownsRow w7.heap.size 3 1 (.slice (some ⟨g', 0, none⟩) n c) n (ints xs)) : RowDrw w g P (.returned (.slice (some ⟨g', 0, none⟩) n c)) w8 :=
  ⟨xs, g', n, c, hn, rfl, Joins.ownsRow_le ho h0.size, hl, hr.kept hg (fun k hk => by cases hk), grownBy_step h0 hg (fun k hk => by cases hk)⟩

set_option maxHeartbeats 4000000 in
theorem l20Row_any (g P L : Nat) (n : Int) (w : World) (hP : P ≤ 90000000) (hL1 : 1 ≤ L) (hL : L ≤ 6) (hn0 : 0 ≤ n) (hn1 : n ≤ 1000000) (hrd : RdOk w g P) :
    Calls Try.prog 58 #[.pointer (some ⟨g, 0, none⟩), .int .i64 L, .int .i64 n] w (RowDrw w g P) := by
  obtain ⟨i0, hi, hz0, hz1, hz2⟩ := info_parts info_int
  have hgl : g < w.heap.size := by obtain ⟨_, _, _, _, h1, _⟩ := hrd; exact (Array.getElem?_eq_some_iff.1 h1).1
  have hst : RwRel w g P L L (.slice (some ⟨w.heap.size, 0, none⟩) 0 0) (.int .i64 (0 : Nat)) (w.alloc (.cells #[] 3)) :=
    ⟨0, [], w.heap.size, 0, rfl, rfl, rfl, rfl, World.ownsRow_lit w #[] 0 (Nat.le_refl _) (by simp [maxLen]) rfl, hrd.kept (World.grownBy_alloc w _ none) (fun k hk => by cases hk), World.grownBy_alloc w _ _⟩
  have Hst := Lib.hid hst
  clear hrd hst
  go_enter Try.func58, Try.ntmps58
  go_wp2_with fail
  go_loopg [7, 8] L (fun k v7 v8 wr => RwRel w g P L k v7 v8 wr)
  case atStart => exact Hst.out
  case round =>
    obtain ⟨i, xs, g1, c1, rfl, hk, hxl, rfl, ho, hr, hg⟩ := hrel
    have Hk := Lib.hid hk
    have Hxl := Lib.hid hxl
    have Ho := Lib.hid ho
    have Hg := Lib.hid hg
    have hil : i ≤ L := by omega
    have hws : w.heap.size ≤ wr.heap.size := hg.size
    by_cases hlt : i < L
    · have kp := Lib.hid (pick_any g (P + i) 4 wr (by omega) (by decide) (by decide) hr)
      clear hk hxl ho hr hg
      go_wp2_with fail
      refine (kp.out).mono ?_
      rintro ee w2 ⟨x, rfl, hx, hrd2, hg2⟩
      have HoA := Lib.hid (own_rd Ho.out hg2 hgl)
      have HgA := Lib.hid (grownBy_trans Hg.out hg2)
      have Hrd2 := Lib.hid hrd2
      have hw2 : w.heap.size ≤ w2.heap.size := HgA.out.size
      clear hx hrd2 hg2
      go_wp2_with (first
        | (at_builtin; refine wpList_append_own _ rfl (.tmp 15) (.tmp 18) 23 rfl w.heap.size 3 i0 (.int .i64 0) 1 8 Try.underlying23 hi hz0 hz1 hz2 rfl (by decide) _ i (ints xs) rfl (HoA.out.alloc _) ⟨w2.heap.size, 0, none⟩ 1 1 [.int .i64 x] rfl rfl (cell_one_new _ _ _) (ints_oneCell _ [x]) (by unfold maxLen; omega) (by omega) (by simp; omega) ?_; intro v2' w3 ho3 hg3 _))
      obtain ⟨g6, c6, rfl⟩ := Joins.ownsRow_form ho3 (by omega)
      have hfin : RwRel w g P L (gk - 1) (.slice (some ⟨g6, 0, none⟩) (i + 1) c6) (.int .i64 ((i : Int) + 1)) w3 := by
        have hgB : w2.grownBy (w2.alloc (.cells #[.int .i64 x] 3)) none := World.grownBy_alloc w2 _ none
        have hrw : ∀ k, Value.ownBlock (.slice (some ⟨g1, 0, none⟩) i c1) = some k → w.heap.size ≤ k := fun k hk => (HoA.out.lt k hk).1
        refine ⟨i + 1, xs ++ [x], g6, c6, by go_num, by have := Hk.out; omega, by rw [List.length_append, Hxl.out]; rfl, rfl, by simpa [ints] using ho3, ?_, grownBy_step (grownBy_step HgA.out hgB (fun k hk => by cases hk)) hg3 (fun k hk => .inr (hrw k hk))⟩
        exact ((Hrd2.out.kept hgB (fun k hk => by cases hk)).kept hg3 (fun k hk => by have := hrw k hk; omega)).mono (by omega)
      have Hfin := Lib.hid hfin
      clear hfin ho3 hg3
      go_wp2_with fail
      go_roundg (gk - 1)
      case measure => have := Hk.out; omega
      case rel => exact Hfin.out
    · obtain rfl : i = L := by omega
      have ko := Lib.hid (odd_any g (P + i) n wr (by omega) (by omega) (by omega) hr)
      clear hk hxl ho hr hg
      go_wp2_with fail
      refine (ko.out).mono ?_
      rintro ee w6 ⟨b, rfl, hr6, hg6⟩
      have Hg6 := Lib.hid (grownBy_trans Hg.out hg6)
      have Ho6 := Lib.hid (own_rd Ho.out hg6 hgl)
      have Hr6 := Lib.hid hr6
      clear hr6 hg6
      cases b with
      | false =>
        go_wp2_with fail
        go_ret
        exact ⟨xs, g1, i, c1, Hxl.out.symm, rfl, Ho6.out, by omega, Hr6.out.mono (by omega), Hg6.out⟩
      | true =>
        have kp := Lib.hid (pick_any g (P + i + 1) 3 w6 (by omega) (by decide) (by decide) Hr6.out)
        go_wp2_with fail
        refine (kp.out).mono ?_
        rintro ee w7 ⟨r, rfl, hr7, hrd7, hg7⟩
        have hr70 := hr7.1
        have hr71 := hr7.2.1 (by decide)
        have Hg7 := Lib.hid (grownBy_trans Hg6.out hg7)
        have Ho7 := Lib.hid (own_rd Ho6.out hg7 hgl)
        have Hr7 := Lib.hid hrd7
        clear hr7 hrd7 hg7
        have hcase : r = 0 ∨ r = 1 ∨ r = 2 := by omega
        rcases hcase with rfl | rfl | rfl
        · go_wp2_with fail
          go_ret
          exact rw_fin (xs := []) Hg7.out (World.grownBy_alloc w7 _ none) (Hr7.out.mono (by omega)) rfl (by decide) (World.ownsRow_lit w7 #[] 0 (Nat.le_refl _) (by simp [maxLen]) rfl)
        · go_wp2_with (first
            | (at_make; refine wpList_make_full _ rfl (.const (.int .i64 6)) (.const (.int .i64 6)) 23 rfl w7.heap.size 3 i0 _ 1 Try.underlying23 hi hz0 hz1 .i64 .i64 _ _ 6 rfl rfl rfl rfl (by rw [hz2]; omega) (by unfold maxLen; omega) (Nat.le_refl _) ?_; intro w8 hown hg8))
          have ho8 : w8.ownsRow w7.heap.size 3 1 (.slice (some ⟨w7.heap.size, 0, none⟩) 6 6) 6 (ints [0, 0, 0, 0, 0, 0]) := by
            rw [show 6 * 1 = 6 from rfl, show (Value.int .i64 0).cells = #[Value.int .i64 0] from rfl, toList_madeCells_one] at hown
            exact hown
          have hfin := rw_fin (xs := [0, 0, 0, 0, 0, 0]) Hg7.out hg8 (Hr7.out.mono (show P + i + 1 + 1 ≤ P + 20 by omega)) rfl (by decide) ho8
          have Hfin := Lib.hid hfin
          clear hown hg8 ho8 hfin
          go_wp2_with fail
          go_ret
          exact Hfin.out
        · obtain ⟨W, hW⟩ : ∃ W, W = w7.alloc (.cells #[.int .i64 (-1), .int .i64 10000] 3) := ⟨_, rfl⟩
          have hgW : w7.grownBy W none := by rw [hW]; exact World.grownBy_alloc w7 _ none
          have hc0 : W.cell? ⟨w7.heap.size, 0, none⟩ = some (.int .i64 (-1)) := by rw [hW]; exact Joins.cell_alloc_mark_at _ _ _ _ _ _ rfl
          have hc1 : W.cell? ⟨w7.heap.size, 1, none⟩ = some (.int .i64 10000) := by rw [hW]; exact Joins.cell_alloc_mark_at _ _ _ _ _ _ rfl
          have hlW : w7.heap.size ≠ g := by have := Hg7.out.size; omega
          have HgW := Lib.hid (grownBy_step Hg7.out hgW (fun k hk => by cases hk))
          have HoW := Lib.hid (show W.ownsRow w.heap.size 3 1 (.slice (some ⟨g1, 0, none⟩) i c1) i (ints xs) by rw [hW]; exact Ho7.out.alloc _)
          have kp2 := Lib.hid (pick_any g (P + i + 1 + 1) 2 W (by omega) (by decide) (by decide) (Hr7.out.kept hgW (fun k hk => by cases hk)))
          have HW := Lib.hid hW.symm
          clear hW hgW
          have hi1 : 1 ≤ i := by omega
          go_wp2_with fail
          rw [HW.out]
          refine (kp2.out).mono ?_
          rintro ee w8 ⟨s, rfl, hs8, hrd8, hg8⟩
          have hs0 := hs8.1
          have hs1 := hs8.2.1 (by decide)
          have Hg8 := Lib.hid (grownBy_trans HgW.out hg8)
          have Ho8 := Lib.hid (own_rd HoW.out hg8 hgl)
          have Hr8 := Lib.hid hrd8
          have d0 := hg8.cell (a := ⟨w7.heap.size, 0, none⟩) hc0 (by simpa using hlW)
          have d1 := hg8.cell (a := ⟨w7.heap.size, 1, none⟩) hc1 (by simpa using hlW)
          clear hs8 hrd8 hg8 hc0 hc1
          have hf := Ho8.out.frozenAt 0
          have hcur : ∃ v, w8.cell? ⟨g1, 0, none⟩ = some v := by
            have h9 := Ho8.out.cellAt 0 (by omega)
            rw [ints_get xs 0 (by rw [Hxl.out]; omega)] at h9
            exact ⟨_, h9⟩
          obtain ⟨v0, hv0⟩ := hcur
          have hfin : ∀ z : Int, RowDrw w g P (.returned (.slice (some ⟨g1, 0, none⟩) i c1)) (w8.setCell ⟨g1, 0, none⟩ (.int .i64 z)) := by
            intro z
            have h7 := (Ho8.out.stored 0 (.int .i64 z)).1
            have hgg : w.heap.size ≤ g1 := (Ho8.out.lt g1 rfl).1
            have hset : w8.grownBy (w8.setCell ⟨g1, 0, none⟩ (.int .i64 z)) (some g1) :=
              ⟨rfl, rfl, rfl, by simp [World.setCell], fun k _ hk => heap_setCell_other w8 ⟨g1, 0, none⟩ k _ (fun e => hk (by simp [e]))⟩
            refine ⟨xs.set 0 z, g1, i, c1, by rw [List.length_set, Hxl.out], rfl, ?_, by omega, (Hr8.out.kept hset (fun k hk => by cases hk; omega)).mono (by omega), grownBy_step Hg8.out hset (fun k hk => by cases hk; exact .inr hgg)⟩
            have e9 : (ints xs).set 0 (.int .i64 z) = ints (xs.set 0 z) := by simp [ints, List.map_set]
            rw [← e9]
            exact h7
          have Hfin := Lib.hid hfin
          clear hfin
          have hcase2 : s = 0 ∨ s = 1 := by omega
          rcases hcase2 with rfl | rfl
          · go_wp2_with fail
            go_ret
            exact Hfin.out (-1)
          · go_wp2_with fail
            go_ret
            exact Hfin.out 10000

def RowDraw (w : World) (e : Ending) (w' : World) : Prop :=
  ∃ (xs : List Int) (g n c : Nat), n = xs.length ∧ e = .returned (.slice (some ⟨g, 0, none⟩) n c) ∧ w'.ownsRow w.heap.size 3 1 (.slice (some ⟨g, 0, none⟩) n c) n (ints xs) ∧ n ≤ 6 ∧ Below w.heap.size w w'

theorem row_draw {w w1 w2 : World} {xs : List Int} {g' n c : Nat} (hb : Below w.heap.size w w1) (hg : w1.grownBy w2 (some w.heap.size)) (hn : n = xs.length) (hl : n ≤ 6)
    (ho : w2.ownsRow w1.heap.size 3 1 (.slice (some ⟨g', 0, none⟩) n c) n (ints xs)) : RowDraw w (.returned (.slice (some ⟨g', 0, none⟩) n c)) w2 :=
  ⟨xs, g', n, c, hn, rfl, Joins.ownsRow_le ho hb.size, hl, hb.grown hg hb.size (fun k e => by cases e; exact Nat.le_refl _)⟩

set_option maxHeartbeats 2000000 in
theorem drawRowValid_any (a : Option Addr) (len cap : Nat) (w : World) (h : By w a len cap) : Calls Try.prog 14 #[.slice a len cap] w (RowDraw w) := by
  have k0 := Lib.hid (open_any a len cap w h)
  obtain ⟨g, hg⟩ : ∃ g, g = w.heap.size := ⟨_, rfl⟩
  rw [← hg] at k0
  have Hg := Lib.hid hg
  clear hg h
  go_enter Try.func14, Try.ntmps14
  go_wp2_with fail
  refine (k0.out).mono ?_
  rintro ee w1 ⟨rfl, hr1, hb1⟩
  have Hb1 := Lib.hid hb1
  have hws : w.heap.size ≤ w1.heap.size := hb1.size
  have hb1' := hb1
  clear hb1
  have k2 := Lib.hid (pick_any g 0 5 w1 (by decide) (by decide) (by decide) hr1)
  clear hr1
  go_wp2_with fail
  refine (k2.out).mono ?_
  rintro ee w2 ⟨r, rfl, hq2, hr2, hg2⟩
  have r0 := hq2.1
  have r1 := hq2.2.1 (by decide)
  obtain ⟨q, rfl⟩ := Int.eq_ofNat_of_zero_le r0
  have Hg2 := Lib.hid hg2
  have k3 := Lib.hid (l20Row_any g (0 + 1) (1 + q) 3 w2 (by decide) (by omega) (by omega) (by decide) (by decide) hr2)
  have eL : ((1 + q : Nat) : Int) = 1 + (q : Int) := by omega
  rw [eL] at k3
  clear hr2 hq2 hg2 eL hb1'
  go_wp2_with fail
  refine (k3.out).mono ?_
  rintro ee w3 ⟨xs, g', n, c, hn, rfl, ho, hl, hrd, hgr⟩
  have hp : RowDraw w (.returned (.slice (some ⟨g', 0, none⟩) n c)) w3 := row_draw (show Below w.heap.size w w1 by rw [← Hg.out]; exact Hb1.out) (by rw [← Hg.out]; exact grownBy_trans Hg2.out hgr) hn hl (Joins.ownsRow_le ho Hg2.out.size)
  have Hp := Lib.hid hp
  clear hp ho hrd hgr hn
  go_wp2_with fail
  go_ret
  exact Hp.out

set_option maxHeartbeats 2000000 in
theorem drawRowOrd_any (a : Option Addr) (len cap : Nat) (w : World) (h : By w a len cap) : Calls Try.prog 23 #[.slice a len cap] w (RowDraw w) := by
  have k0 := Lib.hid (open_any a len cap w h)
  obtain ⟨g, hg⟩ : ∃ g, g = w.heap.size := ⟨_, rfl⟩
  rw [← hg] at k0
  have Hg := Lib.hid hg
  clear hg h
  go_enter Try.func23, Try.ntmps23
  go_wp2_with fail
  refine (k0.out).mono ?_
  rintro ee w1 ⟨rfl, hr1, hb1⟩
  have Hb1 := Lib.hid hb1
  have hws : w.heap.size ≤ w1.heap.size := hb1.size
  have hb1' := hb1
  clear hb1
  have k2 := Lib.hid (pick_any g 0 5 w1 (by decide) (by decide) (by decide) hr1)
  clear hr1
  go_wp2_with fail
  refine (k2.out).mono ?_
  rintro ee w2 ⟨r, rfl, hq2, hr2, hg2⟩
  have r0 := hq2.1
  have r1 := hq2.2.1 (by decide)
  obtain ⟨q, rfl⟩ := Int.eq_ofNat_of_zero_le r0
  have Hg2 := Lib.hid hg2
  have k3 := Lib.hid (l20Row_any g (0 + 1) (1 + q) 9 w2 (by decide) (by omega) (by omega) (by decide) (by decide) hr2)
  have eL : ((1 + q : Nat) : Int) = 1 + (q : Int) := by omega
  rw [eL] at k3
  clear hr2 hq2 hg2 eL hb1'
  go_wp2_with fail
  refine (k3.out).mono ?_
  rintro ee w3 ⟨xs, g', n, c, hn, rfl, ho, hl, hrd, hgr⟩
  have hp : RowDraw w (.returned (.slice (some ⟨g', 0, none⟩) n c)) w3 := row_draw (show Below w.heap.size w w1 by rw [← Hg.out]; exact Hb1.out) (by rw [← Hg.out]; exact grownBy_trans Hg2.out hgr) hn hl (Joins.ownsRow_le ho Hg2.out.size)
  have Hp := Lib.hid hp
  clear hp ho hrd hgr hn
  go_wp2_with fail
  go_ret
  exact Hp.out


set_option maxHeartbeats 2000000 in
theorem drawRowCompare_any (a : Option Addr) (len cap : Nat) (w : World) (h : By w a len cap) : Calls Try.prog 18 #[.slice a len cap] w (fun e w' =>
    ∃ (xs ys : List Int) (g n c g2 n2 c2 : Nat), n = xs.length ∧ n2 = ys.length ∧ e = .returned (.tuple #[.slice (some ⟨g, 0, none⟩) n c, .slice (some ⟨g2, 0, none⟩) n2 c2]) ∧ w'.ownsRow w.heap.size 3 1 (.slice (some ⟨g, 0, none⟩) n c) n (ints xs) ∧
      w'.ownsRow w.heap.size 3 1 (.slice (some ⟨g2, 0, none⟩) n2 c2) n2 (ints ys) ∧ n ≤ 6 ∧ n2 ≤ 6 ∧ Below w.heap.size w w') := by
  have k0 := Lib.hid (open_any a len cap w h)
  obtain ⟨g, hg⟩ : ∃ g, g = w.heap.size := ⟨_, rfl⟩
  rw [← hg] at k0
  have Hg := Lib.hid hg
  clear hg h
  go_enter Try.func18, Try.ntmps18
  go_wp2_with fail
  refine (k0.out).mono ?_
  rintro ee w1 ⟨rfl, hr1, hb1⟩
  have Hb1 := Lib.hid (show Below w.heap.size w w1 by rw [← Hg.out]; exact hb1)
  have hgw1 : g < w1.heap.size := by obtain ⟨_, _, _, _, h1, _⟩ := hr1; exact (Array.getElem?_eq_some_iff.1 h1).1
  have k2 := Lib.hid (pick_any g 0 4 w1 (by decide) (by decide) (by decide) hr1)
  clear hr1 hb1
  go_wp2_with fail
  refine (k2.out).mono ?_
  rintro ee w2 ⟨r, rfl, hq, hr2, hg2⟩
  have r0 := hq.1
  have r1 := hq.2.1 (by decide)
  obtain ⟨q, rfl⟩ := Int.eq_ofNat_of_zero_le r0
  have Hg2 := Lib.hid hg2
  have k3 := Lib.hid (l20Row_any g (0 + 1) (1 + q) 12 w2 (by decide) (by omega) (by omega) (by decide) (by decide) hr2)
  have eL : ((1 + q : Nat) : Int) = 1 + (q : Int) := by omega
  rw [eL] at k3
  have hs2 : w1.heap.size ≤ w2.heap.size := hg2.size
  clear hr2 hq hg2 eL
  go_wp2_with fail
  refine (k3.out).mono ?_
  rintro ee w3 ⟨xs, g1, n, c, hn, rfl, ho, hl, hrd, hgr⟩
  have HO := Lib.hid ho
  have HN := Lib.hid hn
  have Hg3 := Lib.hid (grownBy_trans Hg2.out hgr)
  have k4 := Lib.hid (pick_any g (0 + 1 + 20) 12 w3 (by decide) (by decide) (by decide) hrd)
  clear ho hn hrd hgr
  go_wp2_with fail
  refine (k4.out).mono ?_
  rintro ee w4 ⟨s, rfl, hq4, hr4, hg4⟩
  have s0 := hq4.1
  have s1 := hq4.2.1 (by decide)
  obtain ⟨sn, rfl⟩ := Int.eq_ofNat_of_zero_le s0
  obtain ⟨d, hd⟩ : ∃ d, d = sn / 11 := ⟨_, rfl⟩
  have hd1 : d ≤ 1 := by omega
  have hdq : ((sn : Int)).tdiv 11 = (d : Int) := by rw [Int.tdiv_eq_ediv_of_nonneg (by omega), hd]; rfl
  have hdq2 : (sn : Int) / 11 = (d : Int) := by rw [hd]; rfl
  have HO4 := Lib.hid (own_rd HO.out hg4 (by omega))
  have Hg4 := Lib.hid (grownBy_trans Hg3.out hg4)
  have k5 := Lib.hid (l20Row_any g (0 + 1 + 20 + 1) (1 + q + d) 12 w4 (by decide) (by omega) (by omega) (by decide) (by decide) hr4)
  have eL : ((1 + q + d : Nat) : Int) = 1 + (q : Int) + (d : Int) := by omega
  rw [eL] at k5
  have hs4 : w2.heap.size ≤ w4.heap.size := by have := hg4.size; have := HO.out; have h1 := Hg3.out.size; have h2 := (HO.out.lt g1 rfl); omega
  clear hr4 hq4 hg4 eL hd
  go_wp2_with fail
  refine (k5.out).mono ?_
  rintro ee w5 ⟨ys, g2, n2, c2, hn2, rfl, ho2, hl2, hrd5, hgr5⟩
  have HO5 := Lib.hid (own_rd HO4.out hgr5 (by omega))
  have Hg5 := Lib.hid (grownBy_trans Hg4.out hgr5)
  have HO2 := Lib.hid (Joins.ownsRow_le ho2 (Nat.le_trans Hb1.out.size (Nat.le_trans hs2 hs4)))
  have HN2 := Lib.hid hn2
  have HB := Lib.hid (Hb1.out.grown Hg5.out Hb1.out.size (fun k e => by cases e; rw [Hg.out]; exact Nat.le_refl _))
  have HO6 := Lib.hid (Joins.ownsRow_le HO5.out (Nat.le_trans Hb1.out.size hs2))
  clear ho2 hrd5 hgr5 hn2
  go_wp2_with fail
  go_ret2
  exact ⟨xs, ys, g1, n, c, g2, n2, c2, HN.out, HN2.out, rfl, HO6.out, HO2.out, hl, hl2, HB.out⟩

end Go.Proofs.Ytnacndlfjlibmaa

/- LFnRowOrd -/
/- FnRowOrd: the walk of the law. -/
namespace Go.Proofs.Ytnacndlfjlibmaa
open Go.RowKit

theorem row_news {w : World} {g n c : Nat} {xs : List Int} (h : Sl w (some ⟨g, 0, none⟩) n c xs) : ∀ j u, (ints xs)[j]? = some u → w.cell? ((⟨g, 0, none⟩ : Addr).add j) = some u := by
  intro j u hj
  have hjl : j < xs.length := by
    rcases Nat.lt_or_ge j xs.length with h1 | h1
    · exact h1
    · rw [List.getElem?_eq_none (by rw [ints_len]; exact h1)] at hj; cases hj
  rw [ints_get xs j hjl] at hj
  cases hj
  obtain ⟨b, o, he, hat⟩ := h.2.2.2 (by have := h.1; omega)
  cases he
  rw [Addr.add_lit]
  exact hat j hjl
theorem row_le {w w' : World} {o : Obj} {row : Option Nat} (hg : (w.alloc o).grownBy w' row) : w.heap.size + 1 ≤ w'.heap.size := by
  have := hg.size
  simpa using this

set_option maxHeartbeats 4000000 in
theorem fnRowOrd_walk (a : Option Addr) (len cap : Nat) (w : World) (h : By w a len cap) :
    Calls Try.prog 5 #[.slice a len cap] w fun e w' => e = .returned (.bool true) ∧ Below w.heap.size w w' := by
  have hlm : len ≤ 9223372036854775807 := by have := h.1; have := h.2.1; unfold maxLen at this; omega
  by_cases hbig : 1048576 < len
  · clear h
    go_enter Try.func5, Try.ntmps5
    go_wp2_with fail
    go_ret
    exact ⟨rfl, Below.refl _ _⟩
  have k0 := Lib.hid (drawRowOrd_any a len cap w h)
  clear h
  go_enter Try.func5, Try.ntmps5
  go_wp2_with fail
  refine (k0.out).mono ?_
  rintro ee w1 ⟨xs, g, n, c, hn, rfl, ho, hl, hb0⟩
  have Hn := Lib.hid hn
  clear hn
  have X_0 := Lib.hid (Sl.of_own ho)
  have Ht0 := Lib.hid hb0
  have hws := hb0.size
  clear ho hb0
  obtain ⟨i0, hi, hz0, hz1, hz2⟩ := info_parts info_int
  rcases row_tf xs with hv | hv
  · have Htop := Lib.hid (T.rowOrd_top hv)
    have Hvld := Lib.hid (T.rowOrd_vld hv)
    have hpos := T.rowOrd_pos hv
    have hrl := T.rowOrd_len xs
    have hnx := fun h2 => T.rowOrd_next hv h2
    have hn5 : 1 ≤ n ∧ n ≤ 5 := by have := (rowB_true.1 hv).1; have h9 := Hn.out; omega
    have hup := (rowB_true.1 hv).2
    rw [← Hn.out] at Htop
    obtain ⟨r, hr⟩ : ∃ r, r = T.rowOrd xs := ⟨_, rfl⟩
    rw [← hr] at Htop Hvld hpos hrl hnx
    have Hr := Lib.hid hr.symm
    obtain ⟨tp, htp⟩ : ∃ tp, tp = T.powRow (T.num' (n : Int)) := ⟨_, rfl⟩
    rw [← htp] at Htop
    have Htp := Lib.hid htp.symm
    have hr0 : ((r.length : Int) == 0) = false := by simp; intro h9; rw [h9] at hpos; simp at hpos
    have hr0' : r.length ≠ 0 := by omega
    clear hv hr htp
    obtain ⟨m, hm⟩ : ∃ m, n = m + 1 := ⟨n - 1, by omega⟩
    have hxl : m < xs.length := by have := Hn.out; omega
    have hy9 := upTo_get hup hxl
    obtain ⟨y, hy⟩ := Int.eq_ofNat_of_zero_le hy9.1
    have hyb : y ≤ 9999 := by have := hy9.2; omega
    have Hlu := Lib.hid (show lastUp xs = xs.set m ((y : Int) + 1) by unfold lastUp; rw [← Hn.out, show n - 1 = m by omega, hy])
    have hmn : m < n := by omega
    have hj1 : IntKind.i64.wrap ((n : Int) - 1) = (m : Int) := by rw [IntWalk.i64_in _ (by omega)]; omega
    have hj2 : (n : Int) - 1 = (m : Int) := by omega
    have hj3 : IntKind.i64.wrap (m : Int) = (m : Int) := IntWalk.i64_in _ (by omega)
    have Hy := Lib.hid hy
    have Hxl := Lib.hid hxl
    clear hm hxl hy9 hy hup
    have k6 := Lib.hid (impl_RowOrd (some ⟨g, 0, none⟩) n c xs w1 X_0.out)
    unfold IntPost at k6
    rw [Hr.out] at k6
    go_wp2_with fail
    refine (k6.out).mono ?_
    rintro ee w106 ⟨aO, cO, rfl, ho, hb6⟩
    have Ht6 := Lib.hid (Ht0.out.trans (hb6.mono (by have h1 := Ht0.out.size; omega)))
    have X_6 := Lib.hid (X_0.out.below hb6)
    have O_6 := Lib.hid (Sl.of_own ho)
    clear hb6 ho
    have k7 := Lib.hid (spec_RowOrd (some ⟨g, 0, none⟩) n c xs w106 X_6.out)
    unfold IntPost at k7
    rw [Hr.out] at k7
    go_wp2_with fail
    refine (k7.out).mono ?_
    rintro ee w107 ⟨aQ, cQ, rfl, ho, hb7⟩
    have Ht7 := Lib.hid (Ht6.out.trans (hb7.mono (by have h1 := Ht6.out.size; omega)))
    have X_7 := Lib.hid (X_6.out.below hb7)
    have O_7 := Lib.hid (O_6.out.below hb7)
    have Q_7 := Lib.hid (Sl.of_own ho)
    clear hb7 ho
    have k8 := Lib.hid (sameInts_any aO aQ r.length cO r.length cQ r r w107 (by omega) O_7.out Q_7.out)
    rw [eqB_refl] at k8
    go_wp2_with fail
    refine (k8.out).mono ?_
    rintro ee w108 ⟨rfl, hb8⟩
    have Ht8 := Lib.hid (Ht7.out.trans (hb8.mono (by have h1 := Ht7.out.size; omega)))
    have X_8 := Lib.hid (X_7.out.below hb8)
    have O_8 := Lib.hid (O_7.out.below hb8)
    have Q_8 := Lib.hid (Q_7.out.below hb8)
    clear hb8
    have k9 := Lib.hid (impl_OrdOf n w108 (by omega) (by omega))
    go_wp2_with fail
    refine (k9.out).mono ?_
    rintro ee w109 ⟨aN, cN, rfl, ho, hb9⟩
    have Ht9 := Lib.hid (Ht8.out.trans (hb9.mono (by have h1 := Ht8.out.size; omega)))
    have X_9 := Lib.hid (X_8.out.below hb9)
    have O_9 := Lib.hid (O_8.out.below hb9)
    have Q_9 := Lib.hid (Q_8.out.below hb9)
    have N_9 := Lib.hid (Sl.of_own ho)
    clear hb9 ho
    have k10 := Lib.hid (impl_OrdPower aN (T.num' (n : Int)).length cN (T.num' (n : Int)) w109 N_9.out)
    rw [Htp.out] at k10
    obtain ⟨po, hpo⟩ : ∃ po, po = T.powOk (T.num' (n : Int)) := ⟨_, rfl⟩
    rw [← hpo] at k10
    clear hpo
    go_wp2_with fail
    refine (k10.out).mono ?_
    rintro ee w110 ⟨aT, cT, rfl, ho, hb10⟩
    have Ht10 := Lib.hid (Ht9.out.trans (hb10.mono (by have h1 := Ht9.out.size; omega)))
    have X_10 := Lib.hid (X_9.out.below hb10)
    have O_10 := Lib.hid (O_9.out.below hb10)
    have Q_10 := Lib.hid (Q_9.out.below hb10)
    have N_10 := Lib.hid (N_9.out.below hb10)
    have T_10 := Lib.hid (Sl.of_own ho)
    clear hb10 ho
    have HX := Lib.hid (show (ints xs).length = n * 1 by rw [ints_len]; have := Hn.out; omega)
    have HN := Lib.hid (row_news (X_10.out.below (Joins.below_alloc1 w110 (.cells #[] 3))))
    go_upto_region 11 with (first
      | (at_builtin; refine wpList_append_own _ rfl (.tmp 38) (.tmp 39) 23 rfl w110.heap.size 3 i0 (.int .i64 0) 1 8 Try.underlying23 hi hz0 hz1 hz2 rfl (by decide) _ 0 [] rfl (World.ownsRow_lit w110 #[] 0 (Nat.le_refl _) (by simp [maxLen]) rfl) ⟨g, 0, none⟩ n c (ints xs) rfl HX.out HN.out (ints_one _) (by unfold maxLen; omega) (by omega) (by simp) ?_; intro v1 wa ho1 hg1 _))
    have ho1a := own0 ho1
    obtain ⟨g5, c5, rfl⟩ := Joins.ownsRow_form ho1a (by omega)
    have hbA := ((Below.refl w110.heap.size w110).alloc (Nat.le_refl _) _).grown hg1 (by simp) (fun r e => by cases e; exact Nat.le_refl _)
    have y0 : wa.cell? ⟨g5, m, none⟩ = some (.int .i64 y) := by
      have h9 := ho1a.cellAt m (by omega)
      rw [ints_get xs m Hxl.out, Hy.out] at h9
      exact h9
    have f0 := ho1a.frozenAt m
    obtain ⟨wb, hwb⟩ : ∃ wb, wb = wa.setCell ⟨g5, m, none⟩ (.int .i64 ((y : Int) + 1)) := ⟨_, rfl⟩
    have hgg : w110.heap.size ≤ g5 := (ho1a.lt g5 rfl).1
    have hbB : Below w110.heap.size w110 wb := by rw [hwb]; exact hbA.setCell (p := ⟨g5, m, none⟩) hgg _
    have hoM : wb.ownsRow w110.heap.size 3 1 (.slice (some ⟨g5, 0, none⟩) n c5) n (ints (lastUp xs)) := by
      rw [Hlu.out, show ints (xs.set m ((y : Int) + 1)) = (ints xs).set m (.int .i64 ((y : Int) + 1)) by simp [ints, List.map_set], hwb]
      exact (ho1a.stored m (.int .i64 ((y : Int) + 1))).1
    have Hwb := Lib.hid hwb.symm
    clear ho1 hg1 ho1a hbA hwb HN
    go_upto_region 12 with fail
    rw [Hwb.out]
    clear y0 f0
    have Ht11 := Lib.hid (Ht10.out.trans (hbB.mono (by have h1 := Ht10.out.size; omega)))
    have X_11 := Lib.hid (X_10.out.below hbB)
    have O_11 := Lib.hid (O_10.out.below hbB)
    have Q_11 := Lib.hid (Q_10.out.below hbB)
    have N_11 := Lib.hid (N_10.out.below hbB)
    have T_11 := Lib.hid (T_10.out.below hbB)
    have M_11 := Lib.hid (Sl.of_own hoM)
    clear hbB hoM
    rcases row_tf (lastUp xs) with hm2 | hm2
    · obtain ⟨hq1, hq2⟩ := hnx hm2
      have Hq1 := Lib.hid hq1
      have Hq2 := Lib.hid hq2
      have Hm2 := Lib.hid hm2
      have hql := T.rowOrd_len (lastUp xs)
      obtain ⟨r2, hr2⟩ : ∃ r2, r2 = T.rowOrd (lastUp xs) := ⟨_, rfl⟩
      rw [← hr2] at Hq1 hql
      have Hr2 := Lib.hid hr2.symm
      clear hnx hq1 hq2 hm2 hr2
      have k12 := Lib.hid (impl_OrdNext aO r.length cO r wb O_11.out)
      rw [Hq1.out, Hq2.out] at k12
      go_wp2_with fail
      refine (k12.out).mono ?_
      rintro ee w112 ⟨aK, cK, rfl, ho, hb12⟩
      have Ht12 := Lib.hid (Ht11.out.trans (hb12.mono (by have h1 := Ht11.out.size; omega)))
      have X_12 := Lib.hid (X_11.out.below hb12)
      have O_12 := Lib.hid (O_11.out.below hb12)
      have Q_12 := Lib.hid (Q_11.out.below hb12)
      have N_12 := Lib.hid (N_11.out.below hb12)
      have T_12 := Lib.hid (T_11.out.below hb12)
      have M_12 := Lib.hid (M_11.out.below hb12)
      have K_12 := Lib.hid (Sl.of_own ho)
      clear hb12 ho
      have k13 := Lib.hid (impl_OrdValid aO r.length cO r w112 O_12.out)
      rw [Hvld.out] at k13
      go_wp2_with fail
      refine (k13.out).mono ?_
      rintro ee w113 ⟨rfl, hb13⟩
      have Ht13 := Lib.hid (Ht12.out.trans (hb13.mono (by have h1 := Ht12.out.size; omega)))
      have X_13 := Lib.hid (X_12.out.below hb13)
      have O_13 := Lib.hid (O_12.out.below hb13)
      have Q_13 := Lib.hid (Q_12.out.below hb13)
      have N_13 := Lib.hid (N_12.out.below hb13)
      have T_13 := Lib.hid (T_12.out.below hb13)
      have M_13 := Lib.hid (M_12.out.below hb13)
      have K_13 := Lib.hid (K_12.out.below hb13)
      clear hb13
      have k14 := Lib.hid (impl_OrdCompare aO aT r.length cO tp.length cT r tp w113 O_13.out T_13.out)
      rw [Htop.out] at k14
      go_wp2_with fail
      refine (k14.out).mono ?_
      rintro ee w114 ⟨rfl, hb14⟩
      have Ht14 := Lib.hid (Ht13.out.trans (hb14.mono (by have h1 := Ht13.out.size; omega)))
      have X_14 := Lib.hid (X_13.out.below hb14)
      have O_14 := Lib.hid (O_13.out.below hb14)
      have Q_14 := Lib.hid (Q_13.out.below hb14)
      have N_14 := Lib.hid (N_13.out.below hb14)
      have T_14 := Lib.hid (T_13.out.below hb14)
      have M_14 := Lib.hid (M_13.out.below hb14)
      have K_14 := Lib.hid (K_13.out.below hb14)
      clear hb14
      have k15 := Lib.hid (impl_RowValid (some ⟨g5, 0, none⟩) n c5 (lastUp xs) w114 M_14.out)
      rw [Hm2.out] at k15
      go_wp2_with fail
      refine (k15.out).mono ?_
      rintro ee w115 ⟨rfl, hb15⟩
      have Ht15 := Lib.hid (Ht14.out.trans (hb15.mono (by have h1 := Ht14.out.size; omega)))
      have X_15 := Lib.hid (X_14.out.below hb15)
      have O_15 := Lib.hid (O_14.out.below hb15)
      have Q_15 := Lib.hid (Q_14.out.below hb15)
      have N_15 := Lib.hid (N_14.out.below hb15)
      have T_15 := Lib.hid (T_14.out.below hb15)
      have M_15 := Lib.hid (M_14.out.below hb15)
      have K_15 := Lib.hid (K_14.out.below hb15)
      clear hb15
      have k16 := Lib.hid (impl_RowOrd (some ⟨g5, 0, none⟩) n c5 (lastUp xs) w115 M_15.out)
      unfold IntPost at k16
      rw [Hr2.out] at k16
      go_wp2_with fail
      refine (k16.out).mono ?_
      rintro ee w116 ⟨aL, cL, rfl, ho, hb16⟩
      have Ht16 := Lib.hid (Ht15.out.trans (hb16.mono (by have h1 := Ht15.out.size; omega)))
      have X_16 := Lib.hid (X_15.out.below hb16)
      have O_16 := Lib.hid (O_15.out.below hb16)
      have Q_16 := Lib.hid (Q_15.out.below hb16)
      have N_16 := Lib.hid (N_15.out.below hb16)
      have T_16 := Lib.hid (T_15.out.below hb16)
      have M_16 := Lib.hid (M_15.out.below hb16)
      have K_16 := Lib.hid (K_15.out.below hb16)
      have L_16 := Lib.hid (Sl.of_own ho)
      clear hb16 ho
      have k17 := Lib.hid (sameInts_any aL aK r2.length cL r2.length cK r2 r2 w116 (by omega) L_16.out K_16.out)
      rw [eqB_refl] at k17
      go_wp2_with fail
      refine (k17.out).mono ?_
      rintro ee w117 ⟨rfl, hb17⟩
      have Ht17 := Lib.hid (Ht16.out.trans (hb17.mono (by have h1 := Ht16.out.size; omega)))
      have X_17 := Lib.hid (X_16.out.below hb17)
      have O_17 := Lib.hid (O_16.out.below hb17)
      have Q_17 := Lib.hid (Q_16.out.below hb17)
      have N_17 := Lib.hid (N_16.out.below hb17)
      have T_17 := Lib.hid (T_16.out.below hb17)
      have M_17 := Lib.hid (M_16.out.below hb17)
      have K_17 := Lib.hid (K_16.out.below hb17)
      have L_17 := Lib.hid (L_16.out.below hb17)
      clear hb17
      go_wp2_with fail
      go_ret
      exact ⟨rfl, Ht17.out⟩
    · have Hm2 := Lib.hid hm2
      clear hnx hm2
      have k18 := Lib.hid (impl_OrdNext aO r.length cO r wb O_11.out)
      obtain ⟨nr, hnr⟩ : ∃ nr, nr = T.nextRow r := ⟨_, rfl⟩
      obtain ⟨no, hno⟩ : ∃ no, no = T.nextOk r := ⟨_, rfl⟩
      rw [← hnr, ← hno] at k18
      clear hnr hno
      go_wp2_with fail
      refine (k18.out).mono ?_
      rintro ee w118 ⟨aK, cK, rfl, _, hb18⟩
      have Ht18 := Lib.hid (Ht11.out.trans (hb18.mono (by have h1 := Ht11.out.size; omega)))
      have X_18 := Lib.hid (X_11.out.below hb18)
      have O_18 := Lib.hid (O_11.out.below hb18)
      have Q_18 := Lib.hid (Q_11.out.below hb18)
      have N_18 := Lib.hid (N_11.out.below hb18)
      have T_18 := Lib.hid (T_11.out.below hb18)
      have M_18 := Lib.hid (M_11.out.below hb18)
      clear hb18
      have k19 := Lib.hid (impl_OrdValid aO r.length cO r w118 O_18.out)
      rw [Hvld.out] at k19
      go_wp2_with fail
      refine (k19.out).mono ?_
      rintro ee w119 ⟨rfl, hb19⟩
      have Ht19 := Lib.hid (Ht18.out.trans (hb19.mono (by have h1 := Ht18.out.size; omega)))
      have X_19 := Lib.hid (X_18.out.below hb19)
      have O_19 := Lib.hid (O_18.out.below hb19)
      have Q_19 := Lib.hid (Q_18.out.below hb19)
      have N_19 := Lib.hid (N_18.out.below hb19)
      have T_19 := Lib.hid (T_18.out.below hb19)
      have M_19 := Lib.hid (M_18.out.below hb19)
      clear hb19
      have k20 := Lib.hid (impl_OrdCompare aO aT r.length cO tp.length cT r tp w119 O_19.out T_19.out)
      rw [Htop.out] at k20
      go_wp2_with fail
      refine (k20.out).mono ?_
      rintro ee w120 ⟨rfl, hb20⟩
      have Ht20 := Lib.hid (Ht19.out.trans (hb20.mono (by have h1 := Ht19.out.size; omega)))
      have X_20 := Lib.hid (X_19.out.below hb20)
      have O_20 := Lib.hid (O_19.out.below hb20)
      have Q_20 := Lib.hid (Q_19.out.below hb20)
      have N_20 := Lib.hid (N_19.out.below hb20)
      have T_20 := Lib.hid (T_19.out.below hb20)
      have M_20 := Lib.hid (M_19.out.below hb20)
      clear hb20
      have k21 := Lib.hid (impl_RowValid (some ⟨g5, 0, none⟩) n c5 (lastUp xs) w120 M_20.out)
      rw [Hm2.out] at k21
      go_wp2_with fail
      refine (k21.out).mono ?_
      rintro ee w121 ⟨rfl, hb21⟩
      have Ht21 := Lib.hid (Ht20.out.trans (hb21.mono (by have h1 := Ht20.out.size; omega)))
      have X_21 := Lib.hid (X_20.out.below hb21)
      have O_21 := Lib.hid (O_20.out.below hb21)
      have Q_21 := Lib.hid (Q_20.out.below hb21)
      have N_21 := Lib.hid (N_20.out.below hb21)
      have T_21 := Lib.hid (T_20.out.below hb21)
      have M_21 := Lib.hid (M_20.out.below hb21)
      clear hb21
      go_wp2_with fail
      go_ret
      exact ⟨rfl, Ht21.out⟩
  · have Hr := Lib.hid (T.rowOrd_out hv)
    have Hv := Lib.hid hv
    clear hv
    have k1 := Lib.hid (impl_RowOrd (some ⟨g, 0, none⟩) n c xs w1 X_0.out)
    unfold IntPost at k1
    rw [Hr.out] at k1
    go_wp2_with fail
    refine (k1.out).mono ?_
    rintro ee w101 ⟨aO, cO, rfl, ho, hb1⟩
    have Ht1 := Lib.hid (Ht0.out.trans (hb1.mono (by have h1 := Ht0.out.size; omega)))
    have X_1 := Lib.hid (X_0.out.below hb1)
    have O_1 := Lib.hid (Sl.of_own ho)
    clear hb1 ho
    have k2 := Lib.hid (spec_RowOrd (some ⟨g, 0, none⟩) n c xs w101 X_1.out)
    unfold IntPost at k2
    rw [Hr.out] at k2
    go_wp2_with fail
    refine (k2.out).mono ?_
    rintro ee w102 ⟨aQ, cQ, rfl, ho, hb2⟩
    have Ht2 := Lib.hid (Ht1.out.trans (hb2.mono (by have h1 := Ht1.out.size; omega)))
    have X_2 := Lib.hid (X_1.out.below hb2)
    have O_2 := Lib.hid (O_1.out.below hb2)
    have Q_2 := Lib.hid (Sl.of_own ho)
    clear hb2 ho
    have k3 := Lib.hid (sameInts_any aO aQ 0 cO 0 cQ [] [] w102 (by omega) O_2.out Q_2.out)
    rw [eqB_refl] at k3
    go_wp2_with fail
    refine (k3.out).mono ?_
    rintro ee w103 ⟨rfl, hb3⟩
    have Ht3 := Lib.hid (Ht2.out.trans (hb3.mono (by have h1 := Ht2.out.size; omega)))
    have X_3 := Lib.hid (X_2.out.below hb3)
    have O_3 := Lib.hid (O_2.out.below hb3)
    have Q_3 := Lib.hid (Q_2.out.below hb3)
    clear hb3
    have k4 := Lib.hid (impl_RowValid (some ⟨g, 0, none⟩) n c xs w103 X_3.out)
    rw [Hv.out] at k4
    go_wp2_with fail
    refine (k4.out).mono ?_
    rintro ee w104 ⟨rfl, hb4⟩
    have Ht4 := Lib.hid (Ht3.out.trans (hb4.mono (by have h1 := Ht3.out.size; omega)))
    have X_4 := Lib.hid (X_3.out.below hb4)
    have O_4 := Lib.hid (O_3.out.below hb4)
    have Q_4 := Lib.hid (Q_3.out.below hb4)
    clear hb4
    have k5 := Lib.hid (alive_any w104)
    go_wp2_with fail
    refine (k5.out).mono ?_
    rintro ee w105 ⟨rfl, hb5⟩
    have Ht5 := Lib.hid (Ht4.out.trans (hb5.mono (by have h1 := Ht4.out.size; omega)))
    have X_5 := Lib.hid (X_4.out.below hb5)
    have O_5 := Lib.hid (O_4.out.below hb5)
    have Q_5 := Lib.hid (Q_4.out.below hb5)
    clear hb5
    go_wp2_with fail
    go_ret
    exact ⟨rfl, Ht5.out⟩

end Go.Proofs.Ytnacndlfjlibmaa
