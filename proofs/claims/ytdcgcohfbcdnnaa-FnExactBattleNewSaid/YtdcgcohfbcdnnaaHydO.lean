/- Hydras of ordinals: on trees and on rows. -/
import Derived.Test.YtdcgcohfbcdnnaaHyd
import Derived.Test.YtdcgcohfbcdnnaaHydR
import Derived.Test.YtdcgcohfbcdnnaaFnMath
namespace Go.Proofs.Ytdcgcohfbcdnnaa
set_option maxRecDepth 100000
namespace H
/-- A branch so many times, ahead of others. -/
def rep : Nat → H → H → H
  | 0, _, r => r
  | n + 1, k, r => c k (rep n k r)
theorem rep_body (n : Nat) (k r : H) : (rep n k r).body = Rp n k.enc ++ r.body := by
  induction n with
  | zero => simp [rep, Rp]
  | succ n ih => rw [rep, body_c, ih, Rp, List.append_assoc]
theorem rep_cnt (n : Nat) (k r : H) : (rep n k r).cnt = n + r.cnt := by
  induction n with
  | zero => simp [rep]
  | succ n ih => rw [rep, cnt, ih]; omega
theorem rep_app (n : Nat) (k r s : H) : (rep n k r).app s = rep n k (r.app s) := by
  induction n with
  | zero => rfl
  | succ n ih => rw [rep, app, ih]; rfl
theorem rep_snoc (n : Nat) (k r : H) : rep n k (c k r) = rep (n + 1) k r := by
  induction n with
  | zero => rfl
  | succ n ih => rw [rep, ih]; rfl
end H
namespace T
/-- The hydra of an ordinal. -/
def hyd : T → H
  | z => .z
  | c n e r => H.rep n.toNat (hyd e) (hyd r)
theorem hyd_app (d u : T) : hyd (d.app u) = (hyd d).app (hyd u) := by
  induction d with
  | z => rfl
  | c n e r _ ih => rw [app, hyd, hyd, ih, H.rep_app]
theorem hyd_snoc (d e : T) (x : Int) : hyd (d.app (c x e z)) = (hyd d).app (H.rep x.toNat (hyd e) .z) := by rw [hyd_app]; rfl
theorem hyd_snoc_enc (d e : T) (x : Int) : (hyd (d.app (c x e z))).enc = (((hyd d).cnt + x.toNat : Nat) : Int) :: ((hyd d).body ++ Rp x.toNat (hyd e).enc) := by
  rw [hyd_snoc, H.enc, H.app_cnt, H.rep_cnt, H.app_body, H.rep_body]
  simp [H.cnt, H.body]
theorem hyd_snoc_len (d e : T) (x : Int) : (hyd (d.app (c x e z))).enc.length = (hyd d).enc.length + (hyd e).enc.length * x.toNat := by
  rw [hyd_snoc_enc, H.enc_len]
  simp [Rp_len]
  omega
theorem hyd_part {d e r t : T} {x : Int} (h : d.app (c x e r) = t) : (hyd d).enc.length + (hyd e).enc.length * x.toNat ≤ (hyd t).enc.length := by
  subst h
  rw [hyd_app, H.enc_len, H.enc_len ((hyd d).app _), H.app_body, hyd, H.rep_body]
  simp [Rp_len]
  omega
noncomputable def hydOk (t : T) : Bool := decide ((hyd t).enc.length ≤ 60)
theorem hydOk_true {t : T} : hydOk t = true ↔ (hyd t).enc.length ≤ 60 := by simp [hydOk]
theorem hydOk_false {t : T} : hydOk t = false ↔ 60 < (hyd t).enc.length := by simp [hydOk]
theorem hydOk_tf (t : T) : hydOk t = true ∨ hydOk t = false := by cases hydOk t <;> simp
noncomputable def hydFit (t : T) : List Int := if hydOk t = true then (hyd t).enc else []
theorem hydFit_yes {t : T} (h : hydOk t = true) : hydFit t = (hyd t).enc := if_pos h
theorem hydFit_no {t : T} (h : hydOk t = false) : hydFit t = [] := if_neg (by rw [h]; simp)
theorem hydFit_len (t : T) : (hydFit t).length ≤ 60 := by
  unfold hydFit
  split
  · rename_i h; exact hydOk_true.1 h
  · simp
theorem hyd_len_pos (t : T) : 1 ≤ (hyd t).enc.length := by rw [H.enc_len]; omega
/-- A term whose hydra is too long. -/
theorem hyd_bad {d e r t : T} {x : Int} (h : d.app (c x e r) = t) (hx : 1 ≤ x) (he : hydOk e = false) : hydOk t = false := by
  rw [hydOk_false] at he ⊢
  have h1 := hyd_part h
  have h2 : (hyd e).enc.length * 1 ≤ (hyd e).enc.length * x.toNat := Nat.mul_le_mul (Nat.le_refl _) (by omega)
  omega
noncomputable def hydRow (xs : List Int) : List Int := if vldB xs = true then hydFit (of xs) else []
noncomputable def hydRowOk (xs : List Int) : Bool := vldB xs && hydOk (of xs)
theorem hydRow_len (xs : List Int) : (hydRow xs).length ≤ 1000 := by
  unfold hydRow
  split
  · have := hydFit_len (of xs); omega
  · simp
end T
end Go.Proofs.Ytdcgcohfbcdnnaa
