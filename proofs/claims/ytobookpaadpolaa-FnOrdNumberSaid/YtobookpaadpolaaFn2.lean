/- OrdNumber and OrdKind: the program's and the model's answers. -/
import Derived.Test.YtobookpaadpolaaFn1
namespace Go.Proofs.Ytobookpaadpolaa
open Go.RowKit

theorem T.num_one (n : Int) (r : T) : (T.c n .z r).num = n := rfl
theorem T.num_more (n m : Int) (e f r : T) : (T.c n (.c m e f) r).num = -1 := rfl

theorem numberOf_any (b off n cap : Nat) (t : T) (w : World) (hn : n = t.enc.length) (hb : n ≤ 1000000000000) (hc : n ≤ cap) (hm : cap ≤ maxLen) (hat : At w b off t.enc) :
    Calls Try.prog 48 #[.slice (some ⟨b, off, none⟩) n cap] w fun e w' => e = .returned (.int .i64 t.num) ∧ Below w.heap.size w w' := by
  have k := Lib.hid (termsOf_any b off n cap t.enc t w hn.symm hb hc hm hat rfl)
  have hcl : t.cnt ≤ 1000000000000 := by have := T.cnt_le t; have := T.enc_len t; omega
  clear hn hat
  go_enter Try.func48, Try.ntmps48
  go_wp2_with fail
  refine (k.out).mono ?_
  rintro ee w1 ⟨cs, rfl, ho, hT, hb1⟩
  obtain ⟨g, hg⟩ : ∃ g, g = w.heap.size := ⟨_, rfl⟩
  rw [← hg] at ho ⊢
  have Hb1 := Lib.hid hb1
  have Hg := Lib.hid hg
  clear hb1 hg
  cases t with
  | z =>
    have h0 : ((T.z.cnt : Nat) : Int) = 0 := rfl
    have h1 : (T.z.cnt : Nat) = 0 := rfl
    go_wp2_with fail
    go_ret
    exact ⟨rfl, Hb1.out⟩
  | c m e r =>
    have hp : 0 < (T.c m e r).cnt := by simp [T.cnt]
    have hne : (((T.c m e r).cnt : Int) == 0) = false := by simp [T.cnt]; omega
    obtain ⟨be, oe, ce, p1, p2, p3, p4, p5⟩ := hT.pick (d := .z) (k := 0) rfl rfl
    have x1 : w1.cell? ⟨g, 0, none⟩ = some (.int .i64 m) := (ho.cellAt 0 (by omega)).trans p1
    have x2 : w1.cell? ⟨g, 1, none⟩ = some (.slice (some ⟨be, oe, none⟩) e.enc.length ce) := (ho.cellAt 1 (by omega)).trans p2
    have k2 := Lib.hid (isZero_any be oe e.enc.length ce (e.cnt : Int) w1 (by rw [T.enc_len]; omega) p3.head)
    clear p1 p2 p3 ho hT
    cases e with
    | z =>
      have h0 : (((T.z.cnt : Nat) : Int) == 0) = true := rfl
      go_wp2_with fail
      refine (k2.out).mono ?_
      rintro ee w' ⟨rfl, rfl⟩
      go_wp2_with fail
      go_ret
      exact ⟨rfl, Hb1.out⟩
    | c q f u =>
      have h0 : ((((T.c q f u).cnt : Nat) : Int) == 0) = false := by simp [T.cnt]; omega
      go_wp2_with fail
      refine (k2.out).mono ?_
      rintro ee w' ⟨rfl, rfl⟩
      go_wp2_with fail
      go_ret
      exact ⟨rfl, Hb1.out⟩

theorem impl_OrdNumber (ao : Option Addr) (len cap : Nat) (xs : List Int) (w : World) (h : Sl w ao len cap xs) :
    Calls Try.prog 20 #[.slice ao len cap] w fun e w' => e = .returned (.int .i64 (T.numRow xs)) ∧ Below w.heap.size w w' := by
  rcases vld_tf xs with h1 | h1
  · have k1 := Lib.hid (impl_valid ao len cap xs w h h1)
    obtain ⟨b, off, t, rfl, rfl, hs, hos, hat, hn, hl, hp, hc, hm⟩ := h.valid h1
    have hr : T.numRow t.enc = t.num := by rw [T.numRow, if_pos h1, hos]
    rw [hr]
    have HA := Lib.hid hat
    have HN := Lib.hid hn
    clear h1 hos hs hat hn hr
    go_enter Try.func20, Try.ntmps20
    go_wp2_with fail
    refine (k1.out).mono ?_
    rintro ee w1 ⟨rfl, hb1⟩
    have Hb1 := Lib.hid hb1
    have k2 := Lib.hid (numberOf_any b off len cap t w1 HN.out (by omega) hc hm (HA.out.below hb1 (HA.out.lt (T.enc_ne t))))
    clear hb1
    go_wp2_with fail
    refine (k2.out).mono ?_
    rintro ee w2 ⟨rfl, hb2⟩
    have Hb2 := Lib.hid (Hb1.out.trans (hb2.mono Hb1.out.size))
    clear hb2
    go_wp2_with fail
    go_ret
    exact ⟨rfl, Hb2.out⟩
  · have k1 := Lib.hid (impl_valid ao len cap xs w h h1)
    have hr : T.numRow xs = -1 := by rw [T.numRow, if_neg (by rw [h1]; simp)]
    rw [hr]
    clear h1 hr
    go_enter Try.func20, Try.ntmps20
    go_wp2_with fail
    refine (k1.out).mono ?_
    rintro ee w1 ⟨rfl, hb1⟩
    have Hb1 := Lib.hid hb1
    clear hb1
    go_wp2_with fail
    go_ret
    exact ⟨rfl, Hb1.out⟩

theorem spec_OrdNumber (ao : Option Addr) (len cap : Nat) (xs : List Int) (w : World) (h : Sl w ao len cap xs) :
    Calls Try.prog 21 #[.slice ao len cap] w fun e w' => e = .returned (.int .i64 (T.numRow xs)) ∧ Below w.heap.size w w' := by
  rcases vld_tf xs with h1 | h1
  · have k1 := Lib.hid (spec_valid ao len cap xs w h h1)
    obtain ⟨b, off, t, rfl, rfl, hs, hos, hat, hn, hl, hp, hc, hm⟩ := h.valid h1
    have hr : T.numRow t.enc = t.num := by rw [T.numRow, if_pos h1, hos]
    rw [hr]
    have HA := Lib.hid hat
    have HN := Lib.hid hn
    have HS := Lib.hid hs
    have hcl : t.cnt ≤ 60 := by have := T.cnt_le t; have := T.enc_len t; omega
    clear h1 hos hs hat hn hr
    go_enter Try.func21, Try.ntmps21
    go_wp2_with fail
    refine (k1.out).mono ?_
    rintro ee w1 ⟨rfl, hb1⟩
    have Hb1 := Lib.hid hb1
    have k2 := Lib.hid (l1Terms_any b off len cap t.enc t w1 HN.out.symm (by omega) hc hm (HA.out.below hb1 (HA.out.lt (T.enc_ne t))) rfl)
    clear hb1
    go_wp2_with fail
    refine (k2.out).mono ?_
    rintro ee w2 ⟨v1, v2, es, rfl, ho1, ho2, hE, _, hb2⟩
    have Hb2 := Lib.hid (Hb1.out.trans (hb2.mono Hb1.out.size))
    clear hb2
    obtain ⟨a1, c1, rfl, o1⟩ := own_form ho1
    obtain ⟨a2, c2, rfl, o2⟩ := own_form ho2
    have O1 := Lib.hid o1
    have O2 := Lib.hid o2
    clear o1 o2 ho1 ho2
    cases t with
    | z =>
      have h0 : ((T.z.cnt : Nat) : Int) = 0 := rfl
      have h1 : (T.z.cnt : Nat) = 0 := rfl
      go_wp2_with fail
      go_ret
      exact ⟨rfl, Hb2.out⟩
    | c m e r =>
      have hpc : 0 < (T.c m e r).cnt := by simp [T.cnt]
      have hne : (((T.c m e r).cnt : Int) == 0) = false := by simp [T.cnt]; omega
      obtain ⟨g1, rfl, hlt1, r1⟩ := O1.out hpc
      obtain ⟨g2, rfl, hlt2, r2⟩ := O2.out hpc
      obtain ⟨be, oe, ce, p2, p3, p4, p5⟩ := hE.pick (d := .z) (k := 0) rfl rfl
      have x1 : w2.cell? ⟨g1, 0, none⟩ = some (.int .i64 m) := (r1 0 hpc).trans rfl
      have x2 : w2.cell? ⟨g2, 0, none⟩ = some (.slice (some ⟨be, oe, none⟩) e.enc.length ce) := (r2 0 hpc).trans p2
      clear p2 p3 r1 r2 hE
      cases e with
      | z =>
        obtain rfl := T.nf_z HS.out rfl
        have h2 : (((T.c m .z .z).cnt : Int) == 1) = true := rfl
        have h3 : ((((T.z).enc.length : Nat) : Int) == 1) = true := rfl
        go_wp2_with fail
        go_ret
        exact ⟨rfl, Hb2.out⟩
      | c q f u =>
        have h3 : (((((T.c q f u)).enc.length : Nat) : Int) == 1) = false := by
          have := T.enc_len (.c q f u)
          simp [T.body] at this ⊢
          omega
        by_cases hr1 : (T.c m (.c q f u) r).cnt = 1
        · have h2 : (((T.c m (.c q f u) r).cnt : Int) == 1) = true := by rw [hr1]; rfl
          clear hr1
          go_wp2_with fail
          go_ret
          exact ⟨rfl, Hb2.out⟩
        · have h2 : (((T.c m (.c q f u) r).cnt : Int) == 1) = false := by simp; omega
          clear hr1
          go_wp2_with fail
          go_ret
          exact ⟨rfl, Hb2.out⟩
  · have k1 := Lib.hid (spec_valid ao len cap xs w h h1)
    have hr : T.numRow xs = -1 := by rw [T.numRow, if_neg (by rw [h1]; simp)]
    rw [hr]
    clear h1 hr
    go_enter Try.func21, Try.ntmps21
    go_wp2_with fail
    refine (k1.out).mono ?_
    rintro ee w1 ⟨rfl, hb1⟩
    have Hb1 := Lib.hid hb1
    clear hb1
    go_wp2_with fail
    go_ret
    exact ⟨rfl, Hb1.out⟩

end Go.Proofs.Ytobookpaadpolaa
