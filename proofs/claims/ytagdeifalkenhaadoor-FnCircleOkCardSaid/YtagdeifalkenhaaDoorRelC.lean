/- Relations: the points of a set, one after the other (the program's iterator). -/
import Derived.Test.YtagdeifalkenhaaDoorRelA
import Derived.Shelf.Spec.TrailingZeros
import Derived.RangeFuncBox
import Derived.RangeFuncKeeps
import Derived.RangeFuncNested
import Derived.RangeFuncBound
import Derived.RangeFuncCalls
import Derived.RangeFuncLeaves
import Derived.Shelf.Abstract
import Derived.OwnWalkIn
import Derived.TacticsInMore
import Derived.LoopNIn
import Derived.LoopIn
namespace Go.Proofs.YtagdeifalkenhaaDoor
set_option maxRecDepth 100000
open Go.RowKit Go.Shelf

attribute [local go_sem] Oper.semAt_some

/-- The library's table lies in its variable. -/
def Tab (w : World) : Prop := ∀ j, j < 64 → w.cell? ⟨1, j, none⟩ = some (.int .u8 (Lib.deBruijn64tab.getD j 0))
theorem Tab.lt {w : World} (h : Tab w) : 1 < w.heap.size := World.block_lt_of_cell? w _ (h 0 (by decide))
theorem Tab.below {w w' : World} {n : Nat} (h : Tab w) (hb : Below n w w') (hn : 1 < n) : Tab w' := fun j hj =>
  (hb.cell (p := ⟨1, j, none⟩) hn).trans (h j hj)

theorem tz64_any (x : Nat) (hx0 : x ≠ 0) (hx : x < 9223372036854775808) (w : World) (hT : Tab w) :
    Calls Tryd.prog 71 #[.int .u64 x] w fun e w' => e = .returned (.int .i64 (Lib.ctz 64 x : Nat)) ∧ w = w' := by
  obtain ⟨hlow, hk⟩ := Lib.lowest_bit 64 x hx0 (by omega)
  obtain ⟨hi, htab⟩ := Lib.deBruijn64_at _ hk
  have hcell := hT _ hi
  rw [htab] at hcell
  have key := tz64_key x _ (by omega) hx0 hlow
  have hx0' : ((x : Int) == 0) = false := by simp; omega
  obtain ⟨k, hkk⟩ : ∃ k, k = Lib.ctz 64 x := ⟨_, rfl⟩
  rw [← hkk] at key hi hk hcell ⊢
  obtain ⟨idx, hidx⟩ : ∃ idx : Nat, idx = 2 ^ k * 285870213051353865 % 18446744073709551616 / 288230376151711744 := ⟨_, rfl⟩
  rw [← hidx] at key hi hcell
  clear hT htab hlow hkk hidx hx0
  go_enter Tryd.func71, Tryd.ntmps71
  go_wp2_with (simp only [key])
  go_ret
  exact ⟨rfl, rfl⟩

theorem tz_any (x : Nat) (hx0 : x ≠ 0) (hx : x < 9223372036854775808) (w : World) (hT : Tab w) :
    Calls Tryd.prog 63 #[.int .u64 x] w fun e w' => e = .returned (.int .i64 (Lib.ctz 64 x : Nat)) ∧ w = w' := by
  have c64 := Lib.hid (tz64_any x hx0 hx w hT)
  have hw : IntKind.u64.wrap (x : Int) = (x : Int) := by rw [IntKind.wrap_u64]; omega
  go_enter Tryd.func63, Tryd.ntmps63
  go_wp2_with fail
  refine (c64.out).mono ?_
  rintro ee wx ⟨rfl, rfl⟩
  go_wp2_with fail
  go_ret
  exact ⟨rfl, rfl⟩

theorem leastOf_any (x : Nat) (hx0 : x ≠ 0) (hx : x < 9223372036854775808) (w : World) (hT : Tab w) :
    Calls Tryd.prog 51 #[.int .i64 x] w fun e w' => e = .returned (.int .i64 (Lib.ctz 64 x : Nat)) ∧ w = w' := by
  have c64 := Lib.hid (tz_any x hx0 hx w hT)
  have hw : IntKind.u64.wrap (x : Int) = (x : Int) := by rw [IntKind.wrap_u64]; omega
  go_enter Tryd.func51, Tryd.ntmps51
  go_wp2_with fail
  refine (c64.out).mono ?_
  rintro ee wx ⟨rfl, rfl⟩
  go_wp2_with fail
  go_ret
  exact ⟨rfl, rfl⟩

theorem pointsIn_any (s : Nat) (w : World) :
    Calls Tryd.prog 38 #[.int .i64 s] w fun e w' => e = .returned (.func (.func 55) #[] #[.pointer (some ⟨w.heap.size, 0, none⟩)]) ∧ w' = w.alloc (.cells #[.int .i64 s] 3) := by
  go_enter Tryd.func38, Tryd.ntmps38
  go_wp2_with fail
  go_ret
  exact ⟨rfl, rfl⟩

/-- A point of a relation of m points. -/
abbrev Pt (m : Nat) := { k : Nat // k < m }
theorem pt_list {m : Nat} : ∀ {l : List Nat}, (∀ k ∈ l, k < m) → ∃ ps : List (Pt m), ps.map (·.1) = l
  | [], _ => ⟨[], rfl⟩
  | k :: t, h => by
    obtain ⟨ps, hp⟩ := pt_list (l := t) (fun x hx => h x (List.mem_cons_of_mem _ hx))
    exact ⟨⟨k, h k List.mem_cons_self⟩ :: ps, by rw [List.map_cons, hp]⟩
theorem pts_pt {s m : Nat} (hm : m ≤ 12) (hs : s < 2 ^ m) : ∃ ps : List (Pt m), ps.map (·.1) = pts s :=
  pt_list (fun _ hk => bit_lt hs ((mem_pts (Nat.lt_of_lt_of_le hs (two_le hm))).1 hk))
theorem dif_less {s k : Nat} (hs : s.testBit k = true) : dif s (2 ^ k) < s := by
  have h1 : dif s (2 ^ k) + (s &&& 2 ^ k) = s := by
    rw [add_or (by
      rw [and_zero]
      intro j h1 h2
      rw [dif_bit] at h1
      rw [Nat.testBit_and] at h2
      simp at h1 h2
      rw [h1.2] at h2
      simp at h2)]
    apply set_ext
    intro j
    rw [Nat.testBit_or, dif_bit, Nat.testBit_and]
    cases s.testBit j <;> cases (2 ^ k).testBit j <;> rfl
  have h2 : s &&& 2 ^ k ≠ 0 := fun h => and_zero.1 h k hs (by simp)
  omega

set_option maxRecDepth 100000 in
set_option maxHeartbeats 2000000 in
theorem points1_stops (n m s bs n₀ : Nat) (ps : List (Pt m)) (w0 : World) (hm : m ≤ 12) (hs : s < 2 ^ m) (hps : ps.map (·.1) = pts s) (hn0 : n₀ ≤ w0.heap.size) (hg : 1 < n₀) (hT : Tab w0)
    (hb : bs < w0.heap.size) (hc1 : w0.cell? ⟨bs, 0, none⟩ = some (.int .i64 s)) :
    SeqStopsK Fence.wide n Tryd.prog 55 #[.pointer (some ⟨bs, 0, none⟩)] (fun x : Pt m => #[.int .i64 x.1]) (Below n₀)
      (fun xs => xs = ps) (fun pre => 1 ≤ pre.length ∧ pre <+: ps) 12 w0 := by
  intro l J Jx W hW _ _ hY h0
  have hd1 := (hW.cell (p := ⟨bs, 0, none⟩) hb).trans hc1
  have hTW : Tab W := hT.below hW (Nat.lt_of_lt_of_le hg hn0)
  have HPS := Lib.hid hps
  have HTW := Lib.hid hTW
  have hs4 : s < 4096 := Nat.lt_of_lt_of_le hs (two_le hm)
  have Hpl : ps.length ≤ 12 := by
    have h9 := congrArg List.length hps
    rw [List.length_map] at h9
    have := card_le (Nat.le_refl 12) hs4
    unfold card at this
    omega
  have Hs := Lib.hid hs
  have Hm := Lib.hid hm
  clear hW hc1 hT hTW hps hs hm
  refine callsIn_of_wp Tryd.func55 rfl trivial ?_ rfl
  simp only [Tryd.ntmps55, List.size_toArray, List.length_cons, List.length_nil, Nat.reduceAdd, Nat.reduceSub, Array.replicate_succ, Array.replicate_zero, List.push_toArray, List.append_toArray, List.nil_append, List.cons_append]
  gi_wp2
  gi_loopw [3, 4] (fun v3 _ wr => ∃ (pre rest : List (Pt m)) (left : Nat), ps = pre ++ rest ∧ v3 = .int .i64 left ∧ left < 4096 ∧ Hid (rest.map (·.1) = pts left) ∧ J pre wr ∧ Below n₀ W wr)
    (fun v3 _ _ => (intOf v3).toNat)
  case atStart => exact ⟨[], ps, s, rfl, rfl, hs4, HPS, h0, Below.refl _ _⟩
  case round =>
    obtain ⟨pre, rest, left, hpe, rfl, hl4, HR, hJs, hnx⟩ := hrel
    have Hnx := Lib.hid hnx
    by_cases hl0 : left = 0
    · subst hl0
      have hall : pre = ps := by
        have h9 := HR.out
        rw [pts_zero, List.map_eq_nil_iff] at h9
        rw [hpe, h9, List.append_nil]
      have Hall := Lib.hid hall
      clear hall hnx hpe
      gi_wp2
      go_end0
      exact ⟨⟨_, rfl⟩, .inl ⟨_, Hall.out, hJs⟩⟩
    · have hne : ((left : Int) != 0) = true := by simp; omega
      have hpc := pts_all left hl4 hl0
      have hcb := ctz_bit hl4 hl0
      have hless := dif_less hcb
      obtain ⟨c, hc⟩ : ∃ c, c = Lib.ctz 64 left := ⟨_, rfl⟩
      have kl := Lib.hid (leastOf_any left hl0 (by omega) wr (HTW.out.below hnx hg))
      rw [← hc] at hpc hcb hless kl
      obtain ⟨x, rest', rfl, hx, hr'⟩ : ∃ (x : Pt m) (rest' : List (Pt m)), rest = x :: rest' ∧ x.1 = c ∧ rest'.map (·.1) = pts (dif left (2 ^ c)) := by
        have h9 := HR.out
        rw [hpc] at h9
        cases rest with
        | nil => simp at h9
        | cons x t => simp only [List.map_cons, List.cons.injEq] at h9; exact ⟨x, t, rfl, h9.1, h9.2⟩
      subst hx
      have hx12 : x.1 < 12 := by have := x.2; have := Hm.out; omega
      have hpl : pre.length < 12 := by have h9 := congrArg List.length hpe; rw [List.length_append, List.length_cons] at h9; omega
      obtain ⟨fn, tmps, assign, body, hy, hR⟩ := hY pre x wr hJs hpl
      have ks := Lib.hid (fun wx => setOf_any x.1 (by omega) wx)
      have h2p : 2 ^ x.1 ≤ 4096 := two_le (by omega)
      have hd := andNot_i64 left (2 ^ x.1) (by omega) (by omega)
      obtain ⟨q, hq⟩ : ∃ q, q = 2 ^ x.1 := ⟨_, rfl⟩
      obtain ⟨d, hd'⟩ : ∃ d, d = dif left q := ⟨_, rfl⟩
      rw [← hq] at ks hd hless hr'
      rw [← hd'] at hd hless hr'
      have Hr' := Lib.hid hr'
      have Hpe := Lib.hid hpe
      clear hpc hcb hc hr' hnx hpe hd' hq h2p hl0
      gi_wp2
      refine ⟨trivial, fun h => (by cases h), (callsIn_wide.2 kl.out).mono ?_⟩
      rintro ee wx ⟨rfl, rfl⟩
      gi_wp2
      refine ⟨fun h => (by cases h), hR.mono ?_⟩
      rintro e W3 (⟨rfl, hJ3, hk3⟩ | ⟨rfl, hJx3⟩)
      · gi_wp2
        refine ⟨trivial, fun h => (by cases h), (callsIn_wide.2 (ks.out _)).mono ?_⟩
        rintro ee wx ⟨rfl, rfl⟩
        gi_wp2
        go_roundw
        case rel => exact ⟨pre ++ [x], rest', d, by rw [Hpe.out]; simp, rfl, by omega, Hr', hJ3, Hnx.out.trans hk3⟩
        case measure => simp [intOf]; omega
      · gi_wp2
        refine bodyPost_ret (results_none rfl _ _ _) rfl ?_
        exact ⟨⟨_, rfl⟩, .inr ⟨_, ⟨by simp, ⟨rest', by rw [Hpe.out]; simp⟩⟩, hJx3⟩⟩

end Go.Proofs.YtagdeifalkenhaaDoor
