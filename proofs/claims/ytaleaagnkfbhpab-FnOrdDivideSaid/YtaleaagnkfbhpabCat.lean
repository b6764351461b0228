/- slices.Concat of however many slices of terms. -/
import Derived.Test.YtaleaagnkfbhpabConcat
import Derived.Deep.LoopGhost
namespace Go.Proofs.Ytaleaagnkfbhpab
open Go.RowKit

def psum (ns : Nat → Nat) : Nat → Nat
  | 0 => 0
  | i + 1 => psum ns i + ns i
def pcat (ls : Nat → List Value) : Nat → List Value
  | 0 => []
  | i + 1 => pcat ls i ++ ls i
theorem psum_le {ns : Nat → Nat} {K : Nat} (hb : ∀ i, i < K → ns i ≤ 10000) : ∀ i, i ≤ K → psum ns i ≤ i * 10000 := by
  intro i
  induction i with
  | zero => intro _; exact Nat.le_refl _
  | succ i ih =>
    intro h
    have h1 := ih (by omega)
    have h2 := hb i (by omega)
    rw [psum]
    omega

def CatLoop (w : World) (K : Nat) (ns : Nat → Nat) (ls : Nat → List Value) (gk : Nat) (v6 v27 : Value) (wr : World) : Prop :=
  ∃ (i : Nat) (a : Option Addr) (c : Nat), v27 = .int .i64 i ∧ gk + i = K ∧ v6 = .slice a (psum ns i) c ∧ wr.ownsRow w.heap.size 53 2 v6 (psum ns i) (pcat ls i) ∧ Below w.heap.size w wr

set_option maxHeartbeats 4000000 in
theorem concat_any (K g c : Nat) (ads : Nat → Option Addr) (ns cs : Nat → Nat) (ls : Nat → List Value) (w : World) (hK0 : 0 < K) (hK : K ≤ 10)
    (hc : ∀ i, i < K → w.cell? ⟨g, i, none⟩ = some (.slice (ads i) (ns i) (cs i))) (hr : ∀ i, i < K → Rd w (ads i) (ns i) (cs i) (ls i)) (hb : ∀ i, i < K → ns i ≤ 10000) :
    Calls Try.prog 56 #[.slice (some ⟨g, 0, none⟩) K c] w (CatPost w (psum ns K) (pcat ls K)) := by
  obtain ⟨i0, hi, hz0, hz1, hz2⟩ := info_parts info_term
  have HC := Lib.hid hc
  have HR := Lib.hid hr
  have HB := Lib.hid hb
  have hgl : g < w.heap.size := World.block_lt_of_cell? w _ (hc 0 hK0)
  have HP := Lib.hid (psum_le hb)
  have kg := Lib.hid (grow_any (psum ns K) w (by have := psum_le hb K (Nat.le_refl _); omega))
  clear hc hr hb
  go_enter Try.func56, Try.ntmps56
  go_wp2_with fail
  go_loopg [3, 11] K (fun gk v3 v11 wr => w = wr ∧ ∃ i : Nat, v11 = .int .i64 i ∧ gk + i = K ∧ v3 = .int .i64 (psum ns i : Nat))
  case atStart => exact ⟨rfl, 0, rfl, rfl, rfl⟩
  case round =>
    obtain ⟨rfl, i, rfl, hgk, rfl⟩ := hrel
    have Hgk := Lib.hid hgk
    have hik : i ≤ K := by omega
    have hsb : psum ns i ≤ 100000 := by have := HP.out i hik; omega
    clear hgk
    by_cases hlt : i < K
    · have x := HC.out i hlt
      have hn := HB.out i hlt
      obtain ⟨s, hs⟩ : ∃ s, s = psum ns i := ⟨_, rfl⟩
      obtain ⟨n, hn'⟩ : ∃ n, n = ns i := ⟨_, rfl⟩
      rw [← hs] at hsb ⊢
      rw [← hn'] at hn x
      have Hs := Lib.hid hs
      have Hn := Lib.hid hn'
      clear hs hn'
      go_wp2_with fail
      go_roundg (gk - 1)
      case measure => have := Hgk.out; omega
      case rel => exact ⟨rfl, i + 1, by go_num, by have := Hgk.out; omega, congrArg (Value.int .i64) (by show _ = ((psum ns i + ns i : Nat) : Int); rw [← Hs.out, ← Hn.out]; omega)⟩
    · obtain rfl : K = i := by omega
      go_wp2_with fail
      refine (kg.out).mono ?_
      rintro ee w1 ⟨a, cc, rfl, ho1, hb1⟩
      have hfin : CatLoop w K ns ls K (.slice a 0 cc) (.int .i64 (0 : Nat)) w1 := ⟨0, a, cc, rfl, rfl, rfl, ho1, hb1⟩
      have Hfin := Lib.hid hfin
      clear ho1 hb1 hfin
      go_wp2_with fail
      go_loopg [6, 27] K (fun gk v6 v27 wr => CatLoop w K ns ls gk v6 v27 wr)
      case atStart => exact Hfin.out
      case round =>
        obtain ⟨i, a, cc, rfl, hgk, rfl, ho, hb⟩ := hrel
        have Hgk2 := Lib.hid hgk
        have hik : i ≤ K := by omega
        have hsb : psum ns i ≤ 100000 := by have := HP.out i hik; omega
        have Hb := Lib.hid hb
        have Ho := Lib.hid ho
        have hws : w.heap.size ≤ wr.heap.size := hb.size
        clear hgk hb ho
        by_cases hlt : i < K
        · have x := (Hb.out.cell (p := ⟨g, i, none⟩) hgl).trans (HC.out i hlt)
          have hn := HB.out i hlt
          have hR := (HR.out i hlt).below Hb.out
          obtain ⟨s, hs⟩ : ∃ s, s = psum ns i := ⟨_, rfl⟩
          obtain ⟨q, hq⟩ : ∃ q, q = pcat ls i := ⟨_, rfl⟩
          obtain ⟨n, hn'⟩ : ∃ n, n = ns i := ⟨_, rfl⟩
          obtain ⟨l, hl'⟩ : ∃ l, l = ls i := ⟨_, rfl⟩
          obtain ⟨k, hk'⟩ : ∃ k, k = cs i := ⟨_, rfl⟩
          obtain ⟨ad, had⟩ : ∃ ad, ad = ads i := ⟨_, rfl⟩
          have hnext : psum ns (i + 1) = s + n ∧ pcat ls (i + 1) = q ++ l := ⟨by rw [hs, hn']; rfl, by rw [hq, hl']; rfl⟩
          rw [← hs, ← hq] at Ho
          rw [← hs] at hsb ⊢
          rw [← hn'] at hn
          rw [← hn', ← hl', ← hk', ← had] at hR
          rw [← hn', ← hk', ← had] at x
          have Hnext := Lib.hid hnext
          have Hl := Lib.hid (show l.length = n * 2 from hR.1)
          have H1 := Lib.hid hR.2.1
          clear hs hq hn' hl' hk' had hnext
          rcases hR.2.2 with ⟨ha, hn0, hcc⟩ | ⟨b, o, ha, hrd⟩
          · have hl0 : l = [] := List.length_eq_zero_iff.1 (by rw [Hl.out, hn0])
            have hfin : CatLoop w K ns ls (gk - 1) (.slice a s cc) (.int .i64 ((i + 1 : Nat) : Int)) wr := by
              have e1 : psum ns (i + 1) = s := by rw [Hnext.out.1, hn0]; rfl
              have e2 : pcat ls (i + 1) = q := by rw [Hnext.out.2, hl0, List.append_nil]
              exact ⟨i + 1, a, cc, rfl, by have := Hgk2.out; omega, by rw [e1], by rw [e1, e2]; exact Ho.out, Hb.out⟩
            have Hfin := Lib.hid hfin
            obtain rfl := ha
            obtain rfl := hcc
            subst hn0
            clear hfin hl0 hR
            go_wp2_with (first
              | (at_builtin; refine wpList_append_own_none rfl (.tmp 31) (.tmp 32) 44 rfl w.heap.size 53 i0 2 Try.underlying44 hi _ s q rfl Ho.out rfl ?_))
            go_roundg (gk - 1)
            case measure => have := Hgk2.out; omega
            case rel => exact Hfin.out
          · have Hrd := Lib.hid hrd
            obtain rfl := ha
            clear hR hrd
            go_wp2_with (first
              | (at_builtin; refine wpList_append_own _ rfl (.tmp 31) (.tmp 32) 44 rfl w.heap.size 53 i0 (.agg #[.int .i64 0, .slice none 0 0]) 2 32 Try.underlying44 hi hz0 hz1 hz2 rfl (by decide) _ s q rfl Ho.out ⟨b, o, none⟩ n _ l rfl Hl.out Hrd.out H1.out (by unfold maxLen; omega) (by omega) (by omega) ?_; intro v1 w2 ho2 hg2 _))
            obtain ⟨a2, cc2, rfl⟩ := own_shape ho2
            have hfin : CatLoop w K ns ls (gk - 1) (.slice a2 (s + n) cc2) (.int .i64 ((i + 1 : Nat) : Int)) w2 := by
              refine ⟨i + 1, a2, cc2, rfl, by have := Hgk2.out; omega, by rw [Hnext.out.1], by rw [Hnext.out.1, Hnext.out.2]; exact ho2, Hb.out.grown hg2 hws (fun r e => (Ho.out.lt r e).1)⟩
            have Hfin := Lib.hid hfin
            clear hfin ho2 hg2
            go_wp2_with fail
            go_roundg (gk - 1)
            case measure => have := Hgk2.out; omega
            case rel => exact Hfin.out
        · obtain rfl : K = i := by omega
          go_wp2_with fail
          go_ret
          exact ⟨a, cc, rfl, Ho.out, Hb.out⟩

theorem concat2_any (g c : Nat) (a1 a2 : Option Addr) (n1 c1 n2 c2 : Nat) (l1 l2 : List Value) (w : World)
    (h1 : w.cell? ⟨g, 0, none⟩ = some (.slice a1 n1 c1)) (h2 : w.cell? ⟨g, 1, none⟩ = some (.slice a2 n2 c2)) (r1 : Rd w a1 n1 c1 l1) (r2 : Rd w a2 n2 c2 l2) (b1 : n1 ≤ 10000) (b2 : n2 ≤ 10000) :
    Calls Try.prog 56 #[.slice (some ⟨g, 0, none⟩) 2 c] w (CatPost w (n1 + n2) (l1 ++ l2)) := by
  have hcase : ∀ {j : Nat}, j < 2 → j = 0 ∨ j = 1 := fun h => by omega
  have h := concat_any 2 g c (fun j => match j with | 0 => a1 | _ => a2) (fun j => match j with | 0 => n1 | _ => n2) (fun j => match j with | 0 => c1 | _ => c2) (fun j => match j with | 0 => l1 | _ => l2) w (by decide) (by decide)
    (fun j hj => by
      rcases hcase hj with rfl | rfl
      · exact h1
      · exact h2) (fun j hj => by
      rcases hcase hj with rfl | rfl
      · exact r1
      · exact r2) (fun j hj => by
      rcases hcase hj with rfl | rfl
      · exact b1
      · exact b2)
  have e1 : psum (fun j => match j with | 0 => n1 | _ => n2) 2 = n1 + n2 := by show 0 + n1 + n2 = _; omega
  have e2 : pcat (fun j => match j with | 0 => l1 | _ => l2) 2 = l1 ++ l2 := by show [] ++ l1 ++ l2 = _; simp
  rw [e1, e2] at h
  exact h

end Go.Proofs.Ytaleaagnkfbhpab
