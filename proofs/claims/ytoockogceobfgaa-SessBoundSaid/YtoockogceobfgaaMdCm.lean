/- ber: any number as bytes, and back; any bytes as a number, and as whether: the statement's own walk. -/
import Derived.Test.YtoockogceobfgaaBerSm
import Derived.Deep.DeepCutAuto
import Derived.Deep.RegionHeld3
import Derived.BigQuiet
import Derived.Deep.QuietTactic
import Derived.Test.YtoockogceobfgaaFlE
import Derived.Test.YtoockogceobfgaaRecInm
import Derived.Test.YtoockogceobfgaaBerGm
import Derived.Laws.IdiomStrings
import Derived.Test.YtoockogceobfgaaEnx
import Derived.Laws.StructEq
import Derived.Laws.Tables
namespace Go.Proofs.Ytoockogceobfgaa
open Go.RowKit
set_option maxRecDepth 100000

theorem fits_mono {n : Int} {k : Nat} (h1 : 1 ≤ k) (h7 : k ≤ 7) (h : FitsI n k) : FitsI n (k + 1) := by
  obtain rfl | rfl | rfl | rfl | rfl | rfl | rfl : k = 1 ∨ k = 2 ∨ k = 3 ∨ k = 4 ∨ k = 5 ∨ k = 6 ∨ k = 7 := by omega
  · unfold FitsI at h ⊢
    rw [show (2 : Int) ^ (8 * 1 - 1) = 128 by decide] at h
    rw [show (2 : Int) ^ (8 * (1 + 1) - 1) = 32768 by decide]
    omega
  · unfold FitsI at h ⊢
    rw [show (2 : Int) ^ (8 * 2 - 1) = 32768 by decide] at h
    rw [show (2 : Int) ^ (8 * (2 + 1) - 1) = 8388608 by decide]
    omega
  · unfold FitsI at h ⊢
    rw [show (2 : Int) ^ (8 * 3 - 1) = 8388608 by decide] at h
    rw [show (2 : Int) ^ (8 * (3 + 1) - 1) = 2147483648 by decide]
    omega
  · unfold FitsI at h ⊢
    rw [show (2 : Int) ^ (8 * 4 - 1) = 2147483648 by decide] at h
    rw [show (2 : Int) ^ (8 * (4 + 1) - 1) = 549755813888 by decide]
    omega
  · unfold FitsI at h ⊢
    rw [show (2 : Int) ^ (8 * 5 - 1) = 549755813888 by decide] at h
    rw [show (2 : Int) ^ (8 * (5 + 1) - 1) = 140737488355328 by decide]
    omega
  · unfold FitsI at h ⊢
    rw [show (2 : Int) ^ (8 * 6 - 1) = 140737488355328 by decide] at h
    rw [show (2 : Int) ^ (8 * (6 + 1) - 1) = 36028797018963968 by decide]
    omega
  · exact fits8 n
theorem fits_le {n : Int} {k : Nat} (h1 : 1 ≤ k) (h : FitsI n k) : ∀ d, k + d ≤ 8 → FitsI n (k + d)
  | 0, _ => h
  | d + 1, hd => fits_mono (k := k + d) (by omega) (by omega) (fits_le h1 h d (by omega))
theorem isw_uniq {n : Int} {k m : Nat} (h : IsW n k) (h' : IsW n m) : k = m := by
  have key : ∀ {a b : Nat}, IsW n a → IsW n b → ¬ a < b := fun {a b} ha hb hlt => by
    rcases hb.2.2.2 with h | h
    · have := ha.1; omega
    · have := fits_le ha.1 ha.2.2.1 (b - 1 - a) (by have := hb.2.1; omega)
      rw [show a + (b - 1 - a) = b - 1 by omega] at this
      exact h this
  have h1 := key h h'
  have h2 := key h' h
  omega
theorem fits_range {n : Int} {k : Nat} (h1 : 1 ≤ k) (h8 : k ≤ 8) (h0 : -9223372036854775808 ≤ n) (h9 : n ≤ 9223372036854775807) (h : FitsI n k) : -((2 ^ (8 * k) : Nat) : Int) ≤ 2 * n ∧ 2 * n < ((2 ^ (8 * k) : Nat) : Int) := by
  obtain rfl | rfl | rfl | rfl | rfl | rfl | rfl | rfl : k = 1 ∨ k = 2 ∨ k = 3 ∨ k = 4 ∨ k = 5 ∨ k = 6 ∨ k = 7 ∨ k = 8 := by omega
  · unfold FitsI at h
    rw [show (2 : Int) ^ (8 * 1 - 1) = 128 by decide] at h
    rw [show (2 : Nat) ^ (8 * 1) = 256 by decide]
    omega
  · unfold FitsI at h
    rw [show (2 : Int) ^ (8 * 2 - 1) = 32768 by decide] at h
    rw [show (2 : Nat) ^ (8 * 2) = 65536 by decide]
    omega
  · unfold FitsI at h
    rw [show (2 : Int) ^ (8 * 3 - 1) = 8388608 by decide] at h
    rw [show (2 : Nat) ^ (8 * 3) = 16777216 by decide]
    omega
  · unfold FitsI at h
    rw [show (2 : Int) ^ (8 * 4 - 1) = 2147483648 by decide] at h
    rw [show (2 : Nat) ^ (8 * 4) = 4294967296 by decide]
    omega
  · unfold FitsI at h
    rw [show (2 : Int) ^ (8 * 5 - 1) = 549755813888 by decide] at h
    rw [show (2 : Nat) ^ (8 * 5) = 1099511627776 by decide]
    omega
  · unfold FitsI at h
    rw [show (2 : Int) ^ (8 * 6 - 1) = 140737488355328 by decide] at h
    rw [show (2 : Nat) ^ (8 * 6) = 281474976710656 by decide]
    omega
  · unfold FitsI at h
    rw [show (2 : Int) ^ (8 * 7 - 1) = 36028797018963968 by decide] at h
    rw [show (2 : Nat) ^ (8 * 7) = 72057594037927936 by decide]
    omega
  · unfold FitsI at h
    rw [show (2 : Int) ^ (8 * 8 - 1) = 9223372036854775808 by decide] at h
    rw [show (2 : Nat) ^ (8 * 8) = 18446744073709551616 by decide]
    omega
theorem sval_bes {n : Int} {k : Nat} (hk : IsW n k) (h0 : -9223372036854775808 ≤ n) (h9 : n ≤ 9223372036854775807) : sval (bes n k) = n := by
  have hr := fits_range hk.1 hk.2.1 h0 h9 hk.2.2.1
  have hne : bes n k ≠ [] := by intro h; have := congrArg List.length h; rw [bes_len] at this; have := hk.1; simp at *; omega
  have hb := sval_bd hne
  have hu := uval_bes n k
  have hp : ((2 ^ (8 * k) : Nat) : Int) = (2 : Int) ^ (8 * k) := by simp
  rw [← hp] at hu
  unfold sval at hb ⊢
  rw [bes_len] at hb ⊢
  have hP : 0 < 2 ^ (8 * k) := Nat.two_pow_pos _
  generalize 2 ^ (8 * k) = P at *
  have hm : n % (P : Int) = n ∨ n % (P : Int) = n + P := by
    by_cases hn : 0 ≤ n
    · exact .inl (Int.emod_eq_of_lt hn (by omega))
    · refine .inr ?_
      rw [← Int.add_emod_right n (P : Int)]
      exact Int.emod_eq_of_lt (by omega) (by omega)
  generalize n % (P : Int) = r at *
  split at hb <;> rename_i hc
  · rw [if_pos hc]; omega
  · rw [if_neg hc]; omega
theorem frm_bes {n : Int} {k : Nat} (hk : IsW n k) (h0 : -9223372036854775808 ≤ n) (h9 : n ≤ 9223372036854775807) : frm (bes n k) = (n, 0) := by
  unfold frm
  rw [bes_len, if_neg (by have := hk.1; have := hk.2.1; omega), sval_bes hk h0 h9]
theorem fbo_bool (q : Bool) : fbo [if q then 255 else 0] = (q, 0) := by cases q <;> decide

end Go.Proofs.Ytoockogceobfgaa
namespace Go.Proofs.Ytoockogceobfgaa
open Go.RowKit
set_option maxRecDepth 100000

abbrev tlv (t : UInt8) (l : List UInt8) : List UInt8 := t :: lay l.length ++ l
instance (n : Int) (k : Nat) : Decidable (FitsI n k) := by unfold FitsI; infer_instance
/-- How many bytes a number has. -/
def kI (n : Int) : Nat := ((List.range 8).find? fun k => decide (FitsI n (k + 1))).getD 7 + 1
abbrev iB (n : Int) : List UInt8 := bes n (kI n)
theorem isw_kI (n : Int) : IsW n (kI n) := by
  unfold kI
  cases h : (List.range 8).find? fun k => decide (FitsI n (k + 1)) with
  | none =>
    have h1 := List.find?_eq_none.1 h 7 (by decide)
    exact absurd (fits8 n) (by simpa using h1)
  | some k =>
    have hk := List.find?_some h
    have hm := List.mem_of_find?_eq_some h
    have hl : k < 8 := List.mem_range.1 hm
    rw [Option.getD_some]
    refine ⟨by omega, by omega, by simpa using hk, ?_⟩
    by_cases h0 : k = 0
    · exact .inl (by omega)
    · refine .inr fun hf => ?_
      obtain ⟨pre, suf, e, h3⟩ := (List.find?_eq_some_iff_append.1 h).2
      have hlen : pre.length = k := by
        have e2 : (List.range 8)[pre.length]? = some k := by rw [e]; simp
        have hlt : pre.length < 8 := by have := congrArg List.length e; simp at this; omega
        rw [List.getElem?_range hlt] at e2
        exact Option.some.inj e2
      have hmem : k - 1 ∈ pre := by
        have e2 : pre = (List.range 8).take pre.length := by rw [e]; simp
        rw [e2, hlen]
        exact List.mem_take_iff_getElem.2 ⟨k - 1, by simp; omega, by simp⟩
      have h4 := h3 (k - 1) hmem
      have h5 : k - 1 + 1 = k := by omega
      rw [h5] at h4
      have hf2 : FitsI n k := by simpa using hf
      simp [hf2] at h4
theorem isw_iB {n : Int} {k : Nat} (h : IsW n k) : bes n k = iB n := by rw [isw_uniq h (isw_kI n)]
abbrev txB (s : List UInt8) : List UInt8 := tlv 4 s
abbrev nuB (t : UInt8) (n : Int) : List UInt8 := tlv t (iB n)
abbrev txsB (t : UInt8) (l : List (List UInt8)) : List UInt8 := tlv t (l.flatMap txB)
abbrev atB (typ : List UInt8) (vals : List (List UInt8)) : List UInt8 := tlv 48 (txB typ ++ txsB 49 vals)
abbrev atsB (l : List Att) : List UInt8 := tlv 48 (l.flatMap fun a => atB a.typ a.vals)
/-- A piece of a Sub: empty ends do not stand there. -/
def pie1 (L : List (List UInt8)) (i : Nat) : List (List UInt8) :=
  if 0 < i ∧ i + 1 < L.length then [tlv 129 (L.getD i [])] else if L.getD i [] = [] then [] else if i = 0 then [tlv 128 (L.getD i [])] else [tlv 130 (L.getD i [])]
def pieB (L : List (List UInt8)) : List (List UInt8) := (List.range L.length).flatMap (pie1 L)
/-- A filter's bytes. -/
def filB : Nat → Fi → List UInt8
  | 0, _ => []
  | n + 1, F =>
    if F.kind = 7 then tlv 135 F.typ else
    if F.kind = 4 then tlv 164 (txB F.typ ++ tlv 48 (pieB F.subs).flatten) else
    if F.kind = 3 ∨ F.kind = 5 ∨ F.kind = 6 then tlv (UInt8.ofNat (160 + F.kind).toNat) (txB F.typ ++ txB F.val) else
    tlv (UInt8.ofNat (160 + F.kind).toNat) (F.kids.map (filB n)).flatten
/-- A change. -/
structure Md where
  kind : Int
  typ : List UInt8
  vals : List (List UInt8)
abbrev mdB (m : Md) : List UInt8 := tlv 48 (nuB 10 m.kind ++ atB m.typ m.vals)
/-- A request; fil is so deep at most bs depth says. -/
structure Rq where
  num : Int
  kind : Int
  dn : List UInt8
  pass : List UInt8
  scope : Int
  limit : Int
  fil : Fi
  want : List (List UInt8)
  mods : List Md
  ats : List Att
  rdn : List UInt8
  keep : Bool
  above : Bool
  up : List UInt8
  avt : List UInt8
  avv : List UInt8
  which : Int
abbrev boB (q : Bool) : List UInt8 := tlv 1 [if q then 255 else 0]
/-- What stands under the tag of its operation. -/
def bodyB (d : Nat) (r : Rq) : List UInt8 :=
  if r.kind = 0 then nuB 2 3 ++ txB r.dn ++ tlv 128 r.pass else
  if r.kind = 3 then txB r.dn ++ nuB 10 r.scope ++ nuB 10 0 ++ nuB 2 r.limit ++ nuB 2 0 ++ boB false ++ filB d r.fil ++ txsB 48 r.want else
  if r.kind = 6 then txB r.dn ++ tlv 48 (r.mods.flatMap mdB) else
  if r.kind = 8 then txB r.dn ++ atsB r.ats else
  if r.kind = 10 then r.dn else
  if r.kind = 12 then txB r.dn ++ txB r.rdn ++ boB (!r.keep) ++ (if r.above then tlv 128 r.up else []) else
  if r.kind = 14 then txB r.dn ++ tlv 48 (txB r.avt ++ txB r.avv) else
  if r.kind = 16 then iB r.which else []
def opT (k : Int) : UInt8 := if k = 2 ∨ k = 10 ∨ k = 16 then UInt8.ofNat (64 + k).toNat else UInt8.ofNat (96 + k).toNat
abbrev reqB (d : Nat) (r : Rq) : List UInt8 := tlv 48 (nuB 2 r.num ++ tlv (opT r.kind) (bodyB d r))
end Go.Proofs.Ytoockogceobfgaa
namespace Go.Proofs.Ytoockogceobfgaa
open Go.RowKit
set_option maxRecDepth 100000

def ffin (at_ n len : Nat) : Nat × Nat := if 65536 < at_ + n then (0, 5) else if len < at_ + n then (0, 0) else (at_ + n, 0)
/-- How many bytes the first message has. -/
def mframe (l : List UInt8) : Nat × Nat :=
  if l.length = 0 then (0, 0)
  else if (l.getD 0 0).toNat ≠ 48 then (0, 3)
  else if l.length = 1 then (0, 0)
  else if (l.getD 1 0).toNat < 128 then ffin 2 (l.getD 1 0).toNat l.length
  else if (l.getD 1 0).toNat - 128 = 0 ∨ 4 < (l.getD 1 0).toNat - 128 then (0, 3)
  else if l.length < 2 + ((l.getD 1 0).toNat - 128) then (0, 0)
  else ffin (2 + ((l.getD 1 0).toNat - 128)) (uval ((l.drop 2).take ((l.getD 1 0).toNat - 128))) l.length
theorem ffin_le (a n len : Nat) : (ffin a n len).1 ≤ len := by unfold ffin; split <;> (try split) <;> simp <;> omega
theorem mframe_le (l : List UInt8) : (mframe l).1 ≤ l.length := by
  unfold mframe
  repeat' split
  all_goals first | exact Nat.zero_le _ | exact ffin_le _ _ _

set_option maxHeartbeats 4000000 in
theorem frame_any {w : World} {S : Nat → Prop} {v : Value} {l : List UInt8} (h : Bs w S v l) (hl : l.length ≤ 3000) :
    Calls Try.prog 46 #[v] w fun e w' => e = .returned (.tuple #[.int .i64 ((mframe l).1 : Nat), .int .i64 ((mframe l).2 : Nat)]) ∧ w' = w := by
  obtain ⟨o, ho⟩ : ∃ o, o = mframe l := ⟨_, rfl⟩
  rw [← ho]
  unfold mframe at ho
  obtain ⟨A, c, rfl, h1, h2, h3, h4⟩ := h.open_
  by_cases e0 : l.length = 0
  · rw [if_pos e0] at ho
    subst ho
    have hb : ((l.length : Int) == 0) = true := by rw [e0]; rfl
    have hbx : decide ((l.length : Int) < 1) = true := dtrue (by omega)
    have hby : decide (l.length < 1) = true := dtrue (by omega)
    have hbz : (l.length == 0) = true := by rw [beq_iff_eq]; exact e0
    go_enter Try.func46, Try.ntmps46
    go_wp2_with fail
    go_ret2
    exact ⟨rfl, rfl⟩
  rw [if_neg e0] at ho
  have hb0 : ((l.length : Int) == 0) = false := by rw [beq_eq_false_iff_ne]; omega
  have hb0x : decide ((l.length : Int) < 1) = false := dfalse (by omega)
  have hb0y : decide (l.length < 1) = false := dfalse (by omega)
  obtain ⟨ad, hA, hB, hc0⟩ := h4.byte (k := 0) (by omega)
  subst hA
  rw [show ad.add 0 = ad by simp [Addr.add]] at hc0
  have hg0 : (l.getD 0 0).toNat = l[0].toNat := by rw [List.getD_eq_getElem?_getD, List.getElem?_eq_getElem (by omega)]; rfl
  rw [hg0] at ho
  have hp := l[0].toNat_lt
  clear hg0
  generalize l[0].toNat = p0 at *
  have hi0 : 0 < l.length := by omega
  have hi0x : 0 < (l.length : Int) := by omega
  by_cases e1 : p0 ≠ 48
  · rw [if_pos e1] at ho
    subst ho
    have hb1 : ((p0 : Int) != 48) = true := by rw [bne_iff_ne]; omega
    go_enter Try.func46, Try.ntmps46
    go_wp2_with fail
    go_ret2
    exact ⟨rfl, rfl⟩
  rw [if_neg e1] at ho
  obtain rfl : p0 = 48 := by omega
  have hb1 : (((48 : Nat) : Int) != 48) = false := rfl
  by_cases e2 : l.length = 1
  · rw [if_pos e2] at ho
    subst ho
    have hb2 : ((l.length : Int) == 1) = true := by rw [e2]; rfl
    have hb2x : decide ((l.length : Int) < 2) = true := dtrue (by omega)
    have hb2y : decide (l.length < 2) = true := dtrue (by omega)
    go_enter Try.func46, Try.ntmps46
    go_wp2_with fail
    go_ret2
    exact ⟨rfl, rfl⟩
  rw [if_neg e2] at ho
  have hb2 : ((l.length : Int) == 1) = false := by rw [beq_eq_false_iff_ne]; omega
  have hb2x : decide ((l.length : Int) < 2) = false := dfalse (by omega)
  have hb2y : decide (l.length < 2) = false := dfalse (by omega)
  obtain ⟨ad', hA', hB', hc1⟩ := h4.byte (k := 1) (by omega)
  injection hA' with hA'
  subst hA'
  rw [show ad.add 1 = ⟨ad.block, ad.off + 1, none⟩ by simp [Addr.add]] at hc1
  have hg1 : (l.getD 1 0).toNat = l[1].toNat := by rw [List.getD_eq_getElem?_getD, List.getElem?_eq_getElem (by omega)]; rfl
  rw [hg1] at ho
  have hq := l[1].toNat_lt
  generalize l[1].toNat = q at *
  have hi1 : 1 < (l.length : Int) := by omega
  clear hg1 e0 e2 hp
  by_cases e3 : q < 128
  · rw [if_pos e3] at ho
    unfold ffin at ho
    rw [if_neg (by omega)] at ho
    have hb3 : decide ((128 : Int) ≤ (q : Int)) = false := dfalse (by omega)
    have hb3x : decide (128 ≤ q) = false := dfalse (by omega)
    have hb4 : decide ((65536 : Int) < 2 + (q : Int)) = false := dfalse (by omega)
    by_cases e4 : l.length < 2 + q
    · rw [if_pos e4] at ho
      subst ho
      have hb5 : decide ((l.length : Int) < 2 + (q : Int)) = true := dtrue (by omega)
      go_enter Try.func46, Try.ntmps46
      go_wp2_with fail
      go_ret2
      exact ⟨rfl, rfl⟩
    · rw [if_neg e4] at ho
      subst ho
      have hb5 : decide ((l.length : Int) < 2 + (q : Int)) = false := dfalse (by omega)
      go_enter Try.func46, Try.ntmps46
      go_wp2_with fail
      go_ret2
      exact ⟨by simp only []; rfl, rfl⟩
  rw [if_neg e3] at ho
  obtain ⟨k, hk⟩ : ∃ k, k = q - 128 := ⟨_, rfl⟩
  rw [← hk] at ho
  have hb3 : decide ((128 : Int) ≤ (q : Int)) = true := dtrue (by omega)
  have hb3x : decide (128 ≤ q) = true := dtrue (by omega)
  have hqk : (q : Int) - 128 = (k : Int) := by omega
  by_cases e4 : k = 0 ∨ 4 < k
  · rw [if_pos e4] at ho
    subst ho
    rcases e4 with e4 | e4
    · have hb5 : ((k : Int) == 0) = true := by rw [e4]; rfl
      have hb5x : decide ((k : Int) < 1) = true := dtrue (by omega)
      have hb5y : decide (k < 1) = true := dtrue (by omega)
      clear hk e3
      go_enter Try.func46, Try.ntmps46
      go_wp2_with fail
      go_ret2
      exact ⟨rfl, rfl⟩
    · have hb5 : ((k : Int) == 0) = false := by rw [beq_eq_false_iff_ne]; omega
      have hb5x : decide ((k : Int) < 1) = false := dfalse (by omega)
      have hb5y : decide (k < 1) = false := dfalse (by omega)
      have hb6 : decide ((4 : Int) < (k : Int)) = true := dtrue (by omega)
      clear hk e3
      go_enter Try.func46, Try.ntmps46
      go_wp2_with fail
      go_ret2
      exact ⟨rfl, rfl⟩
  rw [if_neg e4] at ho
  have hk4 : k ≤ 4 := by omega
  have hk1 : 1 ≤ k := by omega
  have hb5 : ((k : Int) == 0) = false := by rw [beq_eq_false_iff_ne]; omega
  have hb5x : decide ((k : Int) < 1) = false := dfalse (by omega)
  have hb5y : decide (k < 1) = false := dfalse (by omega)
  have hb6 : decide ((4 : Int) < (k : Int)) = false := dfalse (by omega)
  have hb6x : decide (4 < k) = false := dfalse (by omega)
  clear hk e3 e4
  by_cases e5 : l.length < 2 + k
  · rw [if_pos e5] at ho
    subst ho
    have hb7 : decide ((l.length : Int) < 2 + (k : Int)) = true := by rw [decide_eq_true_eq]; omega
    go_enter Try.func46, Try.ntmps46
    go_wp2_with fail
    go_ret2
    exact ⟨rfl, rfl⟩
  rw [if_neg e5] at ho
  have hb7 : decide ((l.length : Int) < 2 + (k : Int)) = false := by rw [decide_eq_false_iff_not]; omega
  have hcl : (l.length : Int) ≤ (c : Int) := by omega
  have hkl : 2 + (k : Int) ≤ (l.length : Int) := by omega
  have hkc : 2 + (k : Int) ≤ (c : Int) := by omega
  obtain ⟨ds, hds⟩ : ∃ ds, ds = (l.drop 2).take k := ⟨_, rfl⟩
  have hdl : ds.length = k := by rw [hds, List.length_take, List.length_drop]; omega
  have hcell : ∀ j, (hj : j < k) → w.cell? ⟨ad.block, ad.off + 2 + j, none⟩ = some (.int .u8 ((ds[j]'(by omega)).toNat : Int)) := fun j hj => by
    obtain ⟨ad9, hA9, hB9, hc9⟩ := h4.byte (k := 2 + j) (by omega)
    injection hA9 with hA9
    subst hA9
    rw [show (⟨ad.block, ad.off + 2 + j, none⟩ : Addr) = ad.add (2 + j) by simp [Addr.add, Nat.add_assoc], hc9]
    congr 3
    simp [hds]
  rw [← hds] at ho
  replace hds := Lib.hid hds
  go_enter Try.func46, Try.ntmps46
  go_wp2_with fail
  go_loop [4, 46] (fun n i => ∃ j : Nat, j ≤ k ∧ i = .int .i64 j ∧ n = .int .i64 (uval (ds.take j) : Nat)) (fun _ i => k - (intOf i).toNat)
  case atStart => exact ⟨0, Nat.zero_le _, rfl, by simp [uval]⟩
  case round =>
    obtain ⟨j, hj, rfl, rfl⟩ := hrel
    by_cases hlt : j < k
    · have hbl : decide ((j : Int) < (k : Int)) = true := dtrue (by omega)
      have hbn : decide (j < k) = true := dtrue (by omega)
      have hc9 := hcell j hlt
      have hsn : uval (ds.take (j + 1)) = uval (ds.take j) * 256 + ds[j].toNat := by
        rw [List.take_succ_eq_append_getElem (by omega), uval_snoc]
      have hlt2 : uval (ds.take j) < 16777216 := by
        have := uval_lt (ds.take j)
        have h9 : 2 ^ (8 * (ds.take j).length) ≤ 2 ^ (8 * 3) := Nat.pow_le_pow_right (by omega) (by rw [List.length_take]; omega)
        have h10 : (2 : Nat) ^ (8 * 3) = 16777216 := rfl
        omega
      have hb := ds[j].toNat_lt
      replace hsn := Lib.hid hsn
      generalize ds[j].toNat = b at *
      generalize uval (ds.take j) = u at *
      have hor := i64_or_small u b (by omega) (by omega)
      have hj0 : (0 : Int) ≤ 2 + (j : Int) := by omega
      have hj1 : 2 + (j : Int) < (l.length : Int) := by omega
      clear hcell hdl
      go_wp2_with fail
      exact ⟨⟨j + 1, by omega, by go_num, by rw [hsn.out]; go_num⟩, by simp [intOf] <;> omega⟩
    · have hbl : decide ((j : Int) < (k : Int)) = false := dfalse (by omega)
      have hbn : decide (j < k) = false := dfalse (by omega)
      rw [List.take_of_length_le (by omega)]
      have hul := uval_lt ds
      have h9 : 2 ^ (8 * ds.length) ≤ 2 ^ (8 * 4) := Nat.pow_le_pow_right (by omega) (by omega)
      have h10 : (2 : Nat) ^ (8 * 4) = 4294967296 := rfl
      have hu : uval ds < 4294967296 := by omega
      clear hul h9 h10 hcell
      generalize uval ds = u at *
      unfold ffin at ho
      by_cases e6 : 65536 < 2 + k + u
      · rw [if_pos e6] at ho
        subst ho
        have hb8 : decide ((65536 : Int) < 2 + (k : Int) + (u : Int)) = true := dtrue (by omega)
        go_wp2_with fail
        go_ret2
        exact ⟨rfl, rfl⟩
      rw [if_neg e6] at ho
      have hb8 : decide ((65536 : Int) < 2 + (k : Int) + (u : Int)) = false := dfalse (by omega)
      by_cases e7 : l.length < 2 + k + u
      · rw [if_pos e7] at ho
        subst ho
        have hb9 : decide ((l.length : Int) < 2 + (k : Int) + (u : Int)) = true := dtrue (by omega)
        go_wp2_with fail
        go_ret2
        exact ⟨rfl, rfl⟩
      · rw [if_neg e7] at ho
        subst ho
        have hb9 : decide ((l.length : Int) < 2 + (k : Int) + (u : Int)) = false := dfalse (by omega)
        go_wp2_with fail
        go_ret2
        exact ⟨by simp only []; rfl, rfl⟩

end Go.Proofs.Ytoockogceobfgaa
namespace Go.Proofs.Ytoockogceobfgaa
open Go.RowKit
set_option maxRecDepth 100000

theorem mext_trans {a b c : World} (h : Ext a b) (h' : Ext b c) : Ext a c := h.trans h' (fun _ _ h => h) (fun _ _ h => h)
theorem eq0_any {w : World} : Calls Try.prog 60 #[.slice none 0 0, .slice none 0 0] w fun e w' => e = .returned (.bool true) ∧ w' = w := by
  go_enter Try.func60, Try.ntmps60
  go_wp2_with fail
  go_loopw [13] (fun i wr => i = .int .i64 0 ∧ wr = w) (fun _ _ => 0)
  case atStart => exact ⟨rfl, rfl⟩
  case round =>
    obtain ⟨rfl, rfl⟩ := hrel
    go_wp2_with fail
    go_ret
    exact ⟨rfl, rfl⟩
theorem eqM0_any {w : World} {f : Value} : Calls Try.prog 97 #[.slice none 0 0, .slice none 0 0, f] w fun e w' => e = .returned (.bool true) ∧ w' = w := by
  go_enter Try.func97, Try.ntmps97
  go_wp2_with fail
  go_loopw [17] (fun i wr => i = .int .i64 0 ∧ wr = w) (fun _ _ => 0)
  case atStart => exact ⟨rfl, rfl⟩
  case round =>
    obtain ⟨rfl, rfl⟩ := hrel
    go_wp2_with fail
    go_ret
    exact ⟨rfl, rfl⟩
theorem eqT0_any {w : World} {f : Value} : Calls Try.prog 58 #[.slice none 0 0, .slice none 0 0, f] w fun e w' => e = .returned (.bool true) ∧ w' = w := by
  go_enter Try.func58, Try.ntmps58
  go_wp2_with fail
  go_loopw [17] (fun i wr => i = .int .i64 0 ∧ wr = w) (fun _ _ => 0)
  case atStart => exact ⟨rfl, rfl⟩
  case round =>
    obtain ⟨rfl, rfl⟩ := hrel
    go_wp2_with fail
    go_ret
    exact ⟨rfl, rfl⟩
theorem eqF0_any {w : World} {f : Value} : Calls Try.prog 109 #[.slice none 0 0, .slice none 0 0, f] w fun e w' => e = .returned (.bool true) ∧ w' = w := by
  go_enter Try.func109, Try.ntmps109
  go_wp2_with fail
  go_loopw [17] (fun i wr => i = .int .i64 0 ∧ wr = w) (fun _ _ => 0)
  case atStart => exact ⟨rfl, rfl⟩
  case round =>
    obtain ⟨rfl, rfl⟩ := hrel
    go_wp2_with fail
    go_ret
    exact ⟨rfl, rfl⟩
theorem sameAt0_any {w : World} : Calls Try.prog 32 #[.slice none 0 0, .slice none 0 0] w fun e w' => e = .returned (.bool true) ∧ w' = w := by
  go_enter Try.func32, Try.ntmps32
  go_wp2_with fail
  refine eqT0_any.mono ?_
  rintro e w1 ⟨rfl, rfl⟩
  go_wp2_with fail
  go_ret
  exact ⟨rfl, rfl⟩
theorem sameF0_any {w : World} : Calls Try.prog 96 #[.agg #[.int .i64 0, .string ⟨#[]⟩, .string ⟨#[]⟩, .slice none 0 0, .slice none 0 0], .agg #[.int .i64 0, .string ⟨#[]⟩, .string ⟨#[]⟩, .slice none 0 0, .slice none 0 0]] w fun e w' => e = .returned (.bool true) ∧ Ext w w' := by
  go_enter Try.func96, Try.ntmps96
  go_wp2_with fail
  refine eq0_any.mono ?_
  rintro e w1 ⟨rfl, rfl⟩
  go_wp2_with fail
  refine eqF0_any.mono ?_
  rintro e w1 ⟨rfl, rfl⟩
  go_wp2_with fail
  go_ret
  exact ⟨rfl, ((Mod.refl _ w).alloc _).alloc _⟩
theorem isNum1_any {w : World} : Calls Try.prog 49 #[.int .i64 1] w fun e w' => e = .returned (.bool true) ∧ w' = w := by
  go_enter Try.func49, Try.ntmps49
  go_wp2_with fail
  go_ret
  exact ⟨rfl, rfl⟩
theorem opTag2_any {w : World} : Calls Try.prog 84 #[.int .i64 2] w fun e w' => e = .returned (.int .u8 66) ∧ w' = w := by
  go_enter Try.func84, Try.ntmps84
  go_wp2_with fail
  go_ret
  exact ⟨rfl, rfl⟩
end Go.Proofs.Ytoockogceobfgaa
namespace Go.Proofs.Ytoockogceobfgaa
open Go.RowKit
set_option maxRecDepth 100000

section
variable {P : Program} {w : World} {src dst e : TypeId} {ops : Array Oper} {rest : List Oper} {o : Oper} {a : Act} {Q : Exit → Act → World → Prop}
theorem run_tob (hs : P.underlying src = some .string) (hd : P.underlying dst = some (.slice e)) (he : P.underlying e = some (.int .u8)) (l : List UInt8) (hm : l.length ≤ maxLen) :
    ∃ c w', (convert src dst (sv l)).run P w = .ok (.slice (some ⟨w.heap.size, 0, none⟩) l.length c) w' ∧ Bs w' (fun k => k = w.heap.size) (.slice (some ⟨w.heap.size, 0, none⟩) l.length c) l ∧ Ext w w' ∧ w'.heap.size = w.heap.size + 1 := by
  have hsz : (⟨l.toArray⟩ : ByteArray).size = l.length := by
    show l.toArray.size = l.length
    simp
  have hrun := run_bytes_of_string (P := P) w src dst e ⟨l.toArray⟩ hs hd he
  have hge := grownCap_ge w (⟨l.toArray⟩ : ByteArray).size 0 e
  have hle := grownCap_le_maxLen w (⟨l.toArray⟩ : ByteArray).size 0 e (by rw [hsz]; exact hm)
  rw [hsz] at hrun hge hle
  generalize grownCap w l.length 0 e = c at *
  obtain ⟨fr, hfr⟩ : ∃ fr, fr = ((bytesRow ⟨l.toArray⟩ c).size, (bytesRow ⟨l.toArray⟩ c).size + 1) := ⟨_, rfl⟩
  rw [← hfr] at hrun
  refine ⟨c, _, hrun, ⟨some ⟨w.heap.size, 0, none⟩, c, by simp, by simpa using hge, hle, by simp, fun j u hu => ⟨_, rfl, rfl, ?_⟩⟩, ((Mod.refl _ w).drew).alloc _, by simp⟩
  rw [add_lit, cell_of_row (w.drew.alloc (.cells (bytesRow ⟨l.toArray⟩ c) e fr)) w.heap.size j _ e fr (heap_alloc_new w.drew _)]
  have hj : j < l.length := by
    have := (List.getElem?_eq_some_iff.1 hu).1
    simpa using this
  have hu2 : u = bv l[j] := by
    rw [List.getElem?_map, List.getElem?_eq_getElem hj] at hu
    exact (Option.some.inj hu).symm
  rw [hu2]
  simp [bytesRow, Array.getElem?_append, hj]
/-- []byte(s). -/
theorem wp_tob (hs : P.underlying src = some .string) (hd : P.underlying dst = some (.slice e)) (he : P.underlying e = some (.int .u8)) {l : List UInt8} (hm : l.length ≤ 1000000000)
    (hgd : o.guard = none) (s : Operand) (ho : o.op = .convert src dst s) (hv : a.eval s = sv l)
    (h : ∀ c w', Bs w' (fun k => k = w.heap.size) (.slice (some ⟨w.heap.size, 0, none⟩) l.length c) l → Ext w w' → w'.heap.size = w.heap.size + 1 → wpList P ops Q rest (a.put o.dst (.slice (some ⟨w.heap.size, 0, none⟩) l.length c)) w') : wpList P ops Q (o :: rest) a w := by
  refine wpList_plain hgd fun K hK => ?_
  obtain ⟨c, w', hrun, h2, h3, h4⟩ := run_tob (P := P) (w := w) hs hd he l (by simp only [maxLen]; omega)
  unfold Oper.wp execOp
  simp only [ho, hv, Sem.run_bind, Sem.run_pure, Result.andThen_ok, hrun]
  exact hK _ _ (h c w' h2 h3 h4)
end
end Go.Proofs.Ytoockogceobfgaa
namespace Go.Proofs.Ytoockogceobfgaa
open Go.RowKit
set_option maxRecDepth 100000

/-- Rows of a call's own, each in blocks of its own. -/
structure Orw (w : World) (B : Nat) (v : Value) (vs : List Value) (L : List (List UInt8)) : Prop where
  own : Own w 26 v vs
  fresh : Fresh B v
  len : vs.length = L.length
  els : ∀ (k : Nat) (x : Value) (l : List UInt8), vs[k]? = some x → L[k]? = some l → Own w 5 x (l.map bv) ∧ Fresh B x
section
variable {w w' : World} {B : Nat} {v v' x : Value} {vs : List Value} {L : List (List UInt8)} {l : List UInt8}
theorem Orw.nil (w : World) (B : Nat) : Orw w B (.slice none 0 0) [] [] := ⟨Own.nil _ _, fresh_nil _ _ _, rfl, fun k x l h => by simp at h⟩
theorem Orw.ext (h : Orw w B v vs L) (hm : Ext w w') : Orw w' B v vs L :=
  ⟨h.own.mod hm (fun _ _ h => h), h.fresh, h.len, fun k x l h1 h2 => ⟨(h.els k x l h1 h2).1.mod hm (fun _ _ h => h), (h.els k x l h1 h2).2⟩⟩
theorem Orw.snoc (h : Orw w B v vs L) (h1 : Own w' 26 v' (vs ++ [x])) (h2 : Mod (Go.Proofs.Ytoockogceobfgaa.own v) w w') (h3 : Next w.heap.size v v') (hx : Own w 5 x (l.map bv)) (hf : Fresh B x) (hB : B ≤ w.heap.size) : Orw w' B v' (vs ++ [x]) (L ++ [l]) := by
  have ne : ∀ {y : Value} {m : List UInt8}, Own w 5 y (m.map bv) → Own w' 5 y (m.map bv) := fun hy =>
    hy.mod h2 (fun k hk hv => own_ne h.own hy (by decide) hv hk)
  refine ⟨h1, h3.fresh h.fresh hB, by rw [List.length_append, List.length_append, h.len]; rfl, fun k y m hy hm => ?_⟩
  by_cases hk : k < vs.length
  · rw [List.getElem?_append_left hk] at hy
    rw [List.getElem?_append_left (by rw [← h.len]; exact hk)] at hm
    exact ⟨ne (h.els k y m hy hm).1, (h.els k y m hy hm).2⟩
  · rw [List.getElem?_append_right (by omega)] at hy
    rw [List.getElem?_append_right (by rw [← h.len]; omega), ← h.len] at hm
    have hk0 : k - vs.length = 0 := by
      rcases Nat.eq_zero_or_pos (k - vs.length) with h0 | h0
      · exact h0
      · rw [List.getElem?_eq_none (by simp only [List.length_singleton]; omega)] at hy; cases hy
    rw [hk0] at hy hm
    simp only [List.getElem?_cons_zero, Option.some.injEq] at hy hm
    subst hy; subst hm
    exact ⟨ne hx, hf⟩
theorem Orw.rw (h : Orw w B v vs L) : Rw w (fun _ => True) v L :=
  ⟨vs, h.len, h.own.sl.mono (fun _ _ _ => trivial), fun k x l h1 h2 => (h.els k x l h1 h2).1.sl.mono (fun _ _ _ => trivial)⟩
end
theorem fresh_le {B B' : Nat} {v : Value} (h : Fresh B v) (hB : B' ≤ B) : Fresh B' v := fun k hk => Nat.le_trans hB (h k hk)
theorem one_flat (l : List UInt8) : [l].flatten = l := by simp
theorem iB_len (n : Int) : (iB n).length ≤ 8 := by
  rw [bes_len]
  exact (isw_kI n).2.1
theorem fmB_snoc {α β : Type} (f : α → List β) (L : List α) {k : Nat} (h : k < L.length) : (L.take (k + 1)).flatMap f = (L.take k).flatMap f ++ f L[k] := by
  rw [List.take_succ_eq_append_getElem h, List.flatMap_append]
  simp
theorem fmB_take {α β : Type} (f : α → List β) (L : List α) (k : Nat) : ((L.take k).flatMap f).length ≤ (L.flatMap f).length := by
  have : L.flatMap f = (L.take k).flatMap f ++ (L.drop k).flatMap f := by rw [← List.flatMap_append, List.take_append_drop]
  rw [this, List.length_append]; omega
theorem flat_map {α : Type} (f : α → List UInt8) (L : List α) : (L.map f).flatten = L.flatMap f := by rw [List.flatMap_def]

set_option maxHeartbeats 4000000 in
theorem num_any {w : World} (t : UInt8) (n : Int) (h0 : -9223372036854775808 ≤ n) (h1 : n ≤ 9223372036854775807) :
    Calls Try.prog 25 #[.int .u8 t.toNat, .int .i64 n] w fun e w' => ∃ v', e = .returned v' ∧ Own w' 5 v' ((nuB t n).map bv) ∧ Fresh w.heap.size v' ∧ Ext w w' := by
  have hil := iB_len n
  obtain ⟨Z, hZ⟩ : ∃ Z, Z = nuB t n := ⟨_, rfl⟩
  rw [← hZ]
  replace hZ := Lib.hid (show Z = tlv t (iB n) from hZ)
  go_enter Try.func25, Try.ntmps25
  go_wp2_with fail
  refine (int_any (w := w) n h0 h1).mono ?_
  rintro e w1 ⟨k, v1, rfl, hk, g1, g2, g3⟩
  rw [isw_iB hk] at g1
  generalize iB n = B at *
  obtain ⟨A1, c1, hv1⟩ := g1.shape
  rw [List.length_map] at hv1
  subst hv1
  have hr := Rw.one 26 g1.sl
  have hx2 := fun cs => mext_trans g3 ((Mod.refl (fun _ => False) w1).alloc (.cells cs 26))
  clear hk
  go_wp2_with fail
  refine (tag_any t hr (by rw [one_flat]; omega)).mono ?_
  rintro e w2 ⟨v2, rfl, m1, m2, m3⟩
  rw [one_flat] at m1
  go_wp2_with fail
  go_ret
  exact ⟨_, rfl, by rw [hZ.out]; exact m1, fresh_le m2 (hx2 _).size, mext_trans (hx2 _) m3⟩

set_option maxHeartbeats 4000000 in
theorem mtext_any {w : World} (t : UInt8) (l : List UInt8) (hl : l.length ≤ 65536) :
    Calls Try.prog 53 #[.int .u8 t.toNat, sv l] w fun e w' => ∃ v', e = .returned v' ∧ Own w' 5 v' ((tlv t l).map bv) ∧ Fresh w.heap.size v' ∧ Ext w w' := by
  go_enter Try.func53, Try.ntmps53
  go_wp2_with ((with_reducible show wpList _ _ _ (⟨some 7, _, _, _, _, _⟩ :: _) _ _); refine wp_tob Try.underlying9 Try.underlying26 Try.underlying5 (l := l) (by omega) rfl (.tmp 6) rfl rfl ?_; intro cp w1 k1 k2 k3; clear k3)
  have hr := Rw.one 26 k1
  have hx2 := mext_trans k2 ((Mod.refl (fun _ => False) w1).alloc (.cells #[.slice (some ⟨w.heap.size, 0, none⟩) l.length cp] 26))
  refine (tag_any t hr (by rw [one_flat]; exact hl)).mono ?_
  rintro e w2 ⟨v2, rfl, m1, m2, m3⟩
  rw [one_flat] at m1
  go_wp2_with fail
  go_ret
  exact ⟨_, rfl, m1, fresh_le m2 hx2.size, mext_trans hx2 m3⟩

set_option maxHeartbeats 8000000 in
theorem mtexts_any {w : World} {S : Nat → Prop} {v : Value} {L : List (List UInt8)} (t : UInt8) (h : Ss w S v L) (hl : (L.flatMap txB).length ≤ 65536) :
    Calls Try.prog 88 #[.int .u8 t.toNat, v] w fun e w' => ∃ v', e = .returned v' ∧ Own w' 5 v' ((txsB t L).map bv) ∧ Fresh w.heap.size v' ∧ Ext w w' := by
  obtain ⟨A, c, rfl, -, -, -, h4⟩ := h.open_
  have hsn := fun k h => @fmB_snoc (List UInt8) UInt8 txB L k h
  have htk := fun k => @fmB_take (List UInt8) UInt8 txB L k
  have hLl : L.length * 2 ≤ 65536 := by
    have : ∀ M : List (List UInt8), M.length * 2 ≤ (M.flatMap txB).length := by
      intro M
      induction M with
      | nil => simp
      | cons a M ih =>
        have := (lay_len a.length).1
        rw [List.flatMap_cons, List.length_append, List.length_cons]
        simp only [txB, tlv, List.length_append, List.length_cons]
        omega
    have := this L
    omega
  obtain ⟨n, hn⟩ : ∃ n, n = L.length := ⟨_, rfl⟩
  rw [← hn] at hLl ⊢
  replace hn := Lib.hid hn
  have hcv : ∀ {wx : World} (j : Nat) (hj : j < L.length), Ext w wx → ∃ ad, A = some ad ∧ wx.cell? (ad.add j) = some (sv L[j]) := fun j hj x => by
    obtain ⟨ad, h1, h2, h3⟩ := h4.at_ hj
    exact ⟨ad, h1, ext_cell x h3⟩
  go_enter Try.func88, Try.ntmps88
  go_wp2_with fail
  go_loopw [5, 10] (fun v i wr => ∃ (vs : List Value) (k : Nat), i = .int .i64 k ∧ k ≤ n ∧ Orw wr w.heap.size v vs ((L.take k).map txB) ∧ Ext w wr) (fun _ i _ => n - (intOf i).toNat)
  case atStart => exact ⟨[], 0, rfl, Nat.zero_le _, Orw.nil _ _, Mod.refl _ _⟩
  case round =>
    obtain ⟨vs, k, rfl, hk, ho, hx⟩ := hrel
    have hnn := hn.out
    by_cases hlt : k < n
    · have hb : decide ((k : Int) < (n : Int)) = true := dtrue (by omega)
      obtain ⟨ad, hA, cv⟩ := hcv k (by omega) hx
      subst hA
      have h1 := hsn k (by omega)
      have h2 := htk (k + 1)
      have hmp : (L.take (k + 1)).map txB = (L.take k).map txB ++ [txB (L[k]'(by omega))] := by
        rw [List.take_succ_eq_append_getElem (by omega), List.map_append]; rfl
      rw [h1] at h2
      generalize L[k]'(by omega) = x at *
      have hxl : x.length ≤ 65536 := by
        rw [List.length_append] at h2
        simp only [txB, tlv, List.length_append, List.length_cons] at h2
        omega
      have hk0 : (0 : Int) ≤ (k : Int) := by omega
      have hk1 : (k : Int) < (n : Int) := by omega
      have hvl : vs.length = k := by rw [ho.len, List.length_map, List.length_take]; omega
      obtain ⟨M, hM⟩ : ∃ M, M = (L.take k).map txB := ⟨_, rfl⟩
      rw [← hM] at ho hmp
      have hvl2 := Lib.hid hvl
      have hmp2 := Lib.hid hmp
      clear h1 h2 hmp hvl hM hnn hsn htk hcv
      go_wp2_with fail
      refine (mtext_any 4 x hxl).mono ?_
      rintro e w1 ⟨v1, rfl, m1, m2, m3⟩
      change Own w1 _ v1 ((txB x).map bv) at m1
      generalize txB x = X at *
      obtain ⟨A1, c1, e1⟩ := m1.shape
      rw [List.length_map] at e1
      subst e1
      have ho1 := ho.ext m3
      have hx1 := ext_trans hx m3
      have hsz := hx1.size
      have ho2 := ho1.ext ((Mod.refl (fun _ => False) w1).alloc (.cells #[.slice A1 X.length c1] 26))
      have hx2 := ext_trans hx1 ((Mod.refl (fun _ => False) w1).alloc (.cells #[.slice A1 X.length c1] 26))
      have m4 := m1.alloc (.cells #[.slice A1 X.length c1] 26)
      have hsl := Sl.one w1 26 (.slice A1 X.length c1)
      have m5 := fresh_le m2 hx.size
      go_wp2_with ((with_reducible show wpList _ _ _ (⟨some 18, _, _, _, _, _⟩ :: _) _ _); refine wp_app tyR ho2.own hsl (one_ok _ rfl) rfl (.tmp 14) (.tmp 17) rfl rfl rfl (by have := hvl2.out; simp only [List.length_singleton]; omega) ?_; intro v4 w4 q1 q2 q3)
      have ho3 := ho2.snoc q1 q2 q3 m4 m5 hx2.size
      rw [← hmp2.out] at ho3
      have hx4 : Ext w w4 := hx2.trans q2 (fun _ _ h => h) (fun b hb h => by have := ho2.fresh b h; omega)
      exact ⟨⟨_, k + 1, by go_num, by omega, ho3, hx4⟩, by simp [intOf] <;> omega⟩
    · have hb : decide ((k : Int) < (n : Int)) = false := dfalse (by omega)
      have hkn : k = n := by omega
      subst hkn
      have hr := ho.rw
      rw [hnn, List.take_length, ] at hr
      clear hsn htk hcv hnn
      go_wp2_with fail
      refine (tag_any t hr (by rw [flat_map]; exact hl)).mono ?_
      rintro e w2 ⟨v2, rfl, m1, m2, m3⟩
      rw [flat_map] at m1
      go_wp2_with fail
      go_ret
      exact ⟨_, rfl, m1, fresh_le m2 hx.size, ext_trans hx m3⟩

set_option maxHeartbeats 4000000 in
theorem mattr_any {w : World} {S : Nat → Prop} {v : Value} {typ : List UInt8} {L : List (List UInt8)} (h : Ss w S v L) (hl : (atB typ L).length ≤ 65536) :
    Calls Try.prog 75 #[sv typ, v] w fun e w' => ∃ v', e = .returned v' ∧ Own w' 5 v' ((atB typ L).map bv) ∧ Fresh w.heap.size v' ∧ Ext w w' := by
  have hl' := hl
  simp only [atB, txB, txsB, tlv, List.length_append, List.length_cons] at hl'
  obtain ⟨A, c, hv, -, -, -, -⟩ := h.open_
  subst hv
  obtain ⟨Z, hZ⟩ : ∃ Z, Z = atB typ L := ⟨_, rfl⟩
  rw [← hZ] at hl ⊢
  replace hZ := Lib.hid (show Z = tlv 48 (txB typ ++ txsB 49 L) from hZ)
  go_enter Try.func75, Try.ntmps75
  go_wp2_with fail
  refine (mtext_any 4 typ (by omega)).mono ?_
  rintro e w1 ⟨v1, rfl, m1, m2, m3⟩
  go_wp2_with fail
  refine (mtexts_any 49 (Sl.mod h m3 (fun _ _ _ h => h)) (by omega)).mono ?_
  rintro e w2 ⟨v2, rfl, k1, k2, k3⟩
  rw [hZ.out] at hl
  clear hl'
  change Own w1 _ v1 ((txB typ).map bv) at m1
  generalize txB typ = X at *
  generalize txsB 49 L = Y at *
  have hl' : X.length + Y.length ≤ 65536 := by
    simp only [tlv, List.length_append, List.length_cons] at hl
    omega
  clear hl
  have hr := Rw.two 26 (m1.mod k3 (fun _ _ h => h)).sl k1.sl
  have hx2 := mext_trans (mext_trans m3 k3) ((Mod.refl (fun _ => False) w2).alloc (.cells #[v1, v2] 26))
  obtain ⟨A1, c1, e1⟩ := m1.shape
  obtain ⟨A2, c2, e2⟩ := k1.shape
  rw [List.length_map] at e1 e2
  subst e1 e2
  have hfl : [X, Y].flatten = X ++ Y := by simp
  go_wp2_with fail
  refine (tag_any 48 hr (by rw [hfl, List.length_append]; exact hl')).mono ?_
  rintro e w3 ⟨v3, rfl, q1, q2, q3⟩
  rw [hfl] at q1
  go_wp2_with fail
  go_ret
  exact ⟨_, rfl, by rw [hZ.out]; exact q1, fresh_le q2 hx2.size, mext_trans hx2 q3⟩
end Go.Proofs.Ytoockogceobfgaa
namespace Go.Proofs.Ytoockogceobfgaa
open Go.RowKit
set_option maxRecDepth 100000

abbrev aB (a : Att) : List UInt8 := atB a.typ a.vals
theorem aB_pos (a : Att) : 2 ≤ (aB a).length := by
  have := (lay_len (txB a.typ ++ txsB 49 a.vals).length).1
  simp only [aB, atB, tlv, List.length_append, List.length_cons] at *
  omega
theorem fm_ge {α : Type} (f : α → List UInt8) (h : ∀ a, 2 ≤ (f a).length) : ∀ L : List α, L.length * 2 ≤ (L.flatMap f).length
  | [] => by simp
  | a :: L => by
    have h1 := h a
    have h2 := fm_ge f h L
    rw [List.flatMap_cons, List.length_append, List.length_cons]
    omega

set_option maxHeartbeats 8000000 in
theorem mattrs_any {w : World} {v : Value} {L : List Att} (h : Ats w v L) (hl : (L.flatMap aB).length ≤ 65536) :
    Calls Try.prog 54 #[v] w fun e w' => ∃ v', e = .returned v' ∧ Own w' 5 v' ((atsB L).map bv) ∧ Fresh w.heap.size v' ∧ Ext w w' := by
  have hax := fun {wx : World} (x : Ext w wx) => (h.ext x).open_
  obtain ⟨A, c, rfl, -⟩ := h.open_
  have hsn := fun k h => @fmB_snoc Att UInt8 aB L k h
  have htk := fun k => @fmB_take Att UInt8 aB L k
  have hLl := fm_ge aB aB_pos L
  have hLl : L.length * 2 ≤ 65536 := by omega
  obtain ⟨Z, hZ⟩ : ∃ Z, Z = atsB L := ⟨_, rfl⟩
  rw [← hZ]
  replace hZ := Lib.hid (show Z = tlv 48 (L.flatMap aB) from hZ)
  obtain ⟨n, hn⟩ : ∃ n, n = L.length := ⟨_, rfl⟩
  rw [← hn] at hLl ⊢
  replace hn := Lib.hid hn
  clear h
  go_enter Try.func54, Try.ntmps54
  go_wp2_with fail
  go_loopw [3, 8] (fun v i wr => ∃ (vs : List Value) (k : Nat), i = .int .i64 k ∧ k ≤ n ∧ Orw wr w.heap.size v vs ((L.take k).map aB) ∧ Ext w wr) (fun _ i _ => n - (intOf i).toNat)
  case atStart => exact ⟨[], 0, rfl, Nat.zero_le _, Orw.nil _ _, Mod.refl _ _⟩
  case round =>
    obtain ⟨vs, k, rfl, hk, ho, hx⟩ := hrel
    have hnn := hn.out
    by_cases hlt : k < n
    · have hb : decide ((k : Int) < (n : Int)) = true := dtrue (by omega)
      obtain ⟨A', c', hv, hat⟩ := hax hx
      obtain ⟨ad, y, hA, c0', c1', hy⟩ := hat k (by omega)
      injection hv with hv1 hv2 hv3
      subst hv1
      subst hv3
      subst hA
      clear hv2 hat
      have h1 := hsn k (by omega)
      have h2 := htk (k + 1)
      have hmp : (L.take (k + 1)).map aB = (L.take k).map aB ++ [aB (L[k]'(by omega))] := by
        rw [List.take_succ_eq_append_getElem (by omega), List.map_append]; rfl
      rw [h1] at h2
      generalize L[k]'(by omega) = a at *
      have hal : (atB a.typ a.vals).length ≤ 65536 := by
        rw [List.length_append] at h2
        have h3 : (aB a).length ≤ 65536 := by omega
        exact h3
      have hk0 : (0 : Int) ≤ (k : Int) := by omega
      have hk1 : (k : Int) < (n : Int) := by omega
      have hvl : vs.length = k := by rw [ho.len, List.length_map, List.length_take]; omega
      obtain ⟨M, hM⟩ : ∃ M, M = (L.take k).map aB := ⟨_, rfl⟩
      rw [← hM] at ho hmp
      have hvl2 := Lib.hid hvl
      have hmp2 := Lib.hid hmp
      obtain ⟨Ay, cy, rfl, -, -, -, -⟩ := hy.open_
      clear h1 h2 hmp hvl hM hnn hsn htk hax
      go_wp2_with fail
      refine (mattr_any (Sl.mod hy ((Mod.refl (fun _ => False) _).alloc _) (fun _ _ _ h => h)) hal).mono ?_
      rintro e w1 ⟨v1, rfl, m1, m2, m3⟩
      have hx0 := ext_trans hx ((Mod.refl (fun _ => False) _).alloc (.cells #[sv a.typ, .slice Ay a.vals.length cy] 55))
      change Own w1 _ v1 ((aB a).map bv) at m1
      generalize aB a = X at *
      obtain ⟨A1, c1, e1⟩ := m1.shape
      rw [List.length_map] at e1
      subst e1
      have hx1 := ext_trans hx0 m3
      have ho1 := ho.ext (ext_trans ((Mod.refl (fun _ => False) _).alloc (.cells #[sv a.typ, .slice Ay a.vals.length cy] 55)) m3)
      have ho2 := ho1.ext ((Mod.refl (fun _ => False) w1).alloc (.cells #[.slice A1 X.length c1] 26))
      have hx2 := ext_trans hx1 ((Mod.refl (fun _ => False) w1).alloc (.cells #[.slice A1 X.length c1] 26))
      have m4 := m1.alloc (.cells #[.slice A1 X.length c1] 26)
      have hsl := Sl.one w1 26 (.slice A1 X.length c1)
      have m5 := fresh_le m2 hx0.size
      go_wp2_with ((with_reducible show wpList _ _ _ (⟨some 19, _, _, _, _, _⟩ :: _) _ _); refine wp_app tyR ho2.own hsl (one_ok _ rfl) rfl (.tmp 12) (.tmp 18) rfl rfl rfl (by have := hvl2.out; simp only [List.length_singleton]; omega) ?_; intro v4 w4 q1 q2 q3)
      have ho3 := ho2.snoc q1 q2 q3 m4 m5 hx2.size
      rw [← hmp2.out] at ho3
      have hx4 : Ext w w4 := hx2.trans q2 (fun _ _ h => h) (fun b hb h => by have := ho2.fresh b h; omega)
      exact ⟨⟨_, k + 1, by go_num, by omega, ho3, hx4⟩, by simp [intOf] <;> omega⟩
    · have hb : decide ((k : Int) < (n : Int)) = false := dfalse (by omega)
      have hkn : k = n := by omega
      subst hkn
      have hr := ho.rw
      rw [hnn, List.take_length] at hr
      clear hsn htk hax hnn
      go_wp2_with fail
      refine (tag_any 48 hr (by rw [flat_map]; exact hl)).mono ?_
      rintro e w2 ⟨v2, rfl, m1, m2, m3⟩
      rw [flat_map] at m1
      go_wp2_with fail
      go_ret
      exact ⟨_, rfl, by rw [hZ.out]; exact m1, fresh_le m2 hx.size, ext_trans hx m3⟩
end Go.Proofs.Ytoockogceobfgaa
namespace Go.Proofs.Ytoockogceobfgaa
open Go.RowKit
set_option maxRecDepth 100000

/-- A body's items. -/
abbrev itsB (l : List UInt8) : List (UInt8 × List UInt8) × Nat := balls l.length l []
/-- A number from 0 to m. -/
def numD (l : List UInt8) (m : Int) : Option Int := if (frm l).2 = 0 ∧ 0 ≤ (frm l).1 ∧ (frm l).1 ≤ m then some (frm l).1 else none
/-- Texts and nothing else. -/
def textsD (l : List UInt8) : Option (List (List UInt8)) := if (itsB l).2 = 0 ∧ ∀ x ∈ (itsB l).1, x.1 = 4 then some ((itsB l).1.map Prod.snd) else none
theorem itsB_len (l : List UInt8) : (itsB l).1.length ≤ l.length := by
  have := balls_len l.length l []
  simpa using this

set_option maxHeartbeats 4000000 in
theorem number_any {w : World} {S : Nat → Prop} {x : Value} {l : List UInt8} (t m : Int) (h : Bs w S x l) :
    Calls Try.prog 65 #[.agg #[.int .u8 t, x], .int .i64 m] w fun e w' => e = .returned (.tuple #[.int .i64 ((numD l m).getD 0), .bool (numD l m).isSome]) ∧ Ext w w' := by
  have hf := fun {wx : World} (hx : Ext w wx) => from_any (h.ext hx)
  obtain ⟨A, c, rfl, -, -, -, -⟩ := h.open_
  obtain ⟨r, hr⟩ : ∃ r, r = numD l m := ⟨_, rfl⟩
  rw [← hr]
  unfold numD at hr
  generalize frm l = o at hf hr
  obtain ⟨n, k⟩ := o
  simp only at hf hr
  go_enter Try.func65, Try.ntmps65
  go_wp2_with fail
  refine (hf ((Mod.refl (fun _ => False) _).alloc _)).mono ?_
  rintro e w1 ⟨rfl, rfl⟩
  clear hf h
  have hx := (Mod.refl (fun _ => False) w).alloc (.cells #[.int .u8 t, .slice A l.length c] 112)
  by_cases hk : k = 0
  · subst hk
    by_cases h0 : n < 0
    · rw [if_neg (fun g => by omega)] at hr
      subst hr
      have hb0 : decide (n < 0) = true := dtrue h0
      go_wp2_with fail
      go_ret2
      exact ⟨rfl, hx⟩
    · by_cases h1 : m < n
      · rw [if_neg (fun g => by omega)] at hr
        subst hr
        have hb0 : decide (n < 0) = false := dfalse h0
        have hb1 : decide (m < n) = true := dtrue h1
        go_wp2_with fail
        go_ret2
        exact ⟨rfl, hx⟩
      · rw [if_pos ⟨rfl, by omega, by omega⟩] at hr
        subst hr
        have hb0 : decide (n < 0) = false := dfalse h0
        have hb1 : decide (m < n) = false := dfalse h1
        go_wp2_with fail
        go_ret2
        exact ⟨rfl, hx⟩
  · rw [if_neg (fun g => hk g.1)] at hr
    subst hr
    have hb : ((k : Int) != 0) = true := bne_iff_ne.2 (by omega)
    go_wp2_with fail
    go_ret2
    exact ⟨rfl, hx⟩

set_option maxHeartbeats 8000000 in
theorem textsOf_any {w : World} {S : Nat → Prop} {v : Value} {l : List UInt8} (h : Bs w S v l) (hl : l.length ≤ 100000) :
    Calls Try.prog 90 #[v] w fun e w' => ∃ v', e = .returned (.tuple #[v', .bool (textsD l).isSome]) ∧ Own w' 9 v' (((textsD l).getD []).map sv) ∧ Fresh w.heap.size v' ∧ Ext w w' := by
  obtain ⟨r, hr⟩ : ∃ r, r = textsD l := ⟨_, rfl⟩
  rw [← hr]
  unfold textsD at hr
  have hcall := alls_any h hl
  have hLn := itsB_len l
  obtain ⟨A0, c0, rfl, -, -, -, -⟩ := h.open_
  change Calls Try.prog 64 #[.slice A0 l.length c0] w fun e w' => ∃ v', e = .returned (.tuple #[v', .int .i64 ((itsB l).2 : Nat)]) ∧ Its w' 112 v' (itsB l).1 ∧ Ext w w' at hcall
  generalize itsB l = o at hcall hLn hr
  obtain ⟨L, z⟩ := o
  simp only at hcall hLn hr
  replace hr := Lib.hid hr
  clear h
  go_enter Try.func90, Try.ntmps90
  go_wp2_with fail
  refine hcall.mono ?_
  clear hcall
  rintro e w1 ⟨v1, rfl, g1, g2⟩
  obtain ⟨A, c, rfl⟩ := g1.shape
  by_cases hz : z = 0
  · subst hz
    have hrr := hr.out
    obtain ⟨n, hn⟩ : ∃ n, n = L.length := ⟨_, rfl⟩
    have hn2 := Lib.hid hn
    have hax : ∀ (wx : World), Ext w1 wx → ∀ k, (hk : k < L.length) → ∃ ad x, A = some ad ∧ wx.cell? (ad.add (k * 2)) = some (.int .u8 (L[k].1.toNat : Int)) ∧ wx.cell? ⟨(ad.add (k * 2)).block, (ad.add (k * 2)).off + 1, none⟩ = some x ∧ Bs wx (fun _ => True) x L[k].2 := fun wx hx k hk => by
      obtain ⟨ad, x, e1, e2, e3, e4⟩ := (g1.ext hx).at_ hk
      exact ⟨ad, x, e1, e2, e3, e4.mono (fun _ _ _ => trivial)⟩
    clear g1
    rw [← hn] at hLn ⊢
    clear hn hrr
    go_wp2_with fail
    go_loopw [6, 18] (fun v i wr => ∃ k : Nat, i = .int .i64 k ∧ k ≤ n ∧ Own wr 9 v (((L.take k).map Prod.snd).map sv) ∧ Fresh w1.heap.size v ∧ Ext w wr ∧ Ext w1 wr ∧ (∀ x ∈ L.take k, x.1 = 4)) (fun _ i _ => n - (intOf i).toNat)
    case atStart => exact ⟨0, rfl, Nat.zero_le _, Own.nil _ _, fresh_nil _ _ _, g2, Mod.refl _ _, by simp⟩
    case round =>
      obtain ⟨k, rfl, hk, ho, hf, hx, hx1, h4⟩ := hrel
      by_cases hlt : k < n
      · have hb : decide ((k : Int) < (n : Int)) = true := dtrue (by omega)
        have hnn := hn2.out
        obtain ⟨ad, x, hA, q0, q1, hy⟩ := hax wr hx1 k (by omega)
        subst hA
        have htk : L.take (k + 1) = L.take k ++ [L[k]'(by omega)] := List.take_succ_eq_append_getElem (by omega)
        have hm4 : L[k]'(by omega) ∈ L := List.getElem_mem _
        generalize L[k]'(by omega) = it at *
        obtain ⟨tg, bd⟩ := it
        simp only at q0 hy
        have hk0 : (0 : Int) ≤ (k : Int) := by omega
        have hk1 : (k : Int) < (n : Int) := by omega
        obtain ⟨Ay, cy, rfl, -, -, -, -⟩ := hy.open_
        clear hnn hax
        by_cases ht : tg = 4
        · subst ht
          have h4' : ∀ x ∈ L.take (k + 1), x.1 = 4 := by
            rw [htk]
            intro x hx
            rcases List.mem_append.1 hx with hx | hx
            · exact h4 x hx
            · rw [List.mem_singleton.1 hx]
          have hmp := Lib.hid (show ((L.take k).map Prod.snd).map sv ++ [sv bd] = ((L.take (k + 1)).map Prod.snd).map sv by rw [htk]; simp)
          have hol := Lib.hid (show ((((L.take k).map Prod.snd).map sv).length + [sv bd].length) * 16 ≤ 140737488355328 by simp only [List.length_map, List.length_take, List.length_singleton]; omega)
          have q0 : wr.cell? (ad.add (k * 2)) = some (.int .u8 4) := q0
          clear htk hm4
          have z1 := run_conv (P := Try.prog) Try.underlying26 Try.underlying5 Try.underlying9 (hy.ext ((Mod.refl (fun _ => False) _).alloc (.cells #[.int .u8 4, .slice Ay bd.length cy] 112)))
          have hsl := Sl.one (wr.alloc (.cells #[.int .u8 4, .slice Ay bd.length cy] 112)) 9 (sv bd)
          have hs1 : (wr.alloc (.cells #[.int .u8 4, .slice Ay bd.length cy] 112)).heap.size = wr.heap.size + 1 := by simp
          rw [hs1] at hsl
          clear hs1
          have ho2 := (ho.alloc (.cells #[.int .u8 4, .slice Ay bd.length cy] 112)).alloc (.cells #[sv bd] 9)
          have hx2 := ext_trans ((Mod.refl (fun _ => False) wr).alloc (.cells #[.int .u8 4, .slice Ay bd.length cy] 112)) ((Mod.refl (fun _ => False) _).alloc (.cells #[sv bd] 9))
          go_wp2_with ((with_reducible show wpList _ _ _ (⟨some 30, _, _, _, _, _⟩ :: _) _ _); refine wp_app tySE ho2 hsl (one_ok _ rfl) rfl (.tmp 25) (.tmp 29) rfl rfl rfl hol.out ?_; intro v4 w4 k1 k2 k3)
          have hx3 := ext_trans hx hx2
          have hf4 := Next.fresh k3 hf (ext_trans hx1 hx2).size
          exact ⟨⟨k + 1, by go_num, by omega, by rw [← hmp.out]; exact k1, hf4, hx3.trans k2 (fun _ _ h => h) (fun b hb h => by have := hf b h; have := g2.size; omega), (ext_trans hx1 hx2).trans k2 (fun _ _ h => h) (fun b hb h => by have := hf b h; omega), h4'⟩, by simp [intOf] <;> omega⟩
        · have hbt : ((tg.toNat : Int) != 4) = true := bne_iff_ne.2 (fun g => ht (UInt8.toNat.inj (by have : (4 : UInt8).toNat = 4 := rfl; omega)))
          have hrr := hr.out
          rw [if_neg (fun g => ht (g.2 _ hm4))] at hrr
          subst hrr
          clear hm4 htk
          go_wp2_with fail
          go_ret2
          exact ⟨_, rfl, Own.nil _ _, fresh_nil _ _ _, ext_trans hx ((Mod.refl (fun _ => False) wr).alloc _)⟩
      · have hb : decide ((k : Int) < (n : Int)) = false := dfalse (by omega)
        have hkn : k = n := by omega
        subst hkn
        have hrr := hr.out
        rw [hn2.out, List.take_length] at h4 ho
        rw [if_pos ⟨trivial, h4⟩] at hrr
        subst hrr
        clear hax
        obtain ⟨Ao, co, e1⟩ := ho.shape
        rw [List.length_map, List.length_map] at e1
        subst e1
        clear hr
        go_wp2_with fail
        go_ret2
        exact ⟨_, rfl, ho, fresh_le hf g2.size, hx⟩
  · have hrr := hr.out
    rw [if_neg (fun g => hz g.1)] at hrr
    subst hrr
    have hb : ((z : Int) != 0) = true := bne_iff_ne.2 (by omega)
    go_wp2_with fail
    go_ret2
    exact ⟨_, rfl, Own.nil _ _, fresh_nil _ _ _, g2⟩
end Go.Proofs.Ytoockogceobfgaa
namespace Go.Proofs.Ytoockogceobfgaa
open Go.RowKit
set_option maxRecDepth 100000

/-- Items of just these tags, in order. -/
def fieldsD (l ts : List UInt8) : Bool := decide ((itsB l).2 = 0 ∧ (itsB l).1.map Prod.fst = ts)

set_option maxHeartbeats 8000000 in
theorem fields_any {w : World} {S S2 : Nat → Prop} {v vt : Value} {l ts : List UInt8} (h : Bs w S v l) (hl : l.length ≤ 100000) (ht : Bs w S2 vt ts) :
    Calls Try.prog 89 #[v, vt] w fun e w' => ∃ v', e = .returned (.tuple #[v', .bool (fieldsD l ts)]) ∧ Its w' 112 v' (if fieldsD l ts then (itsB l).1 else []) ∧ Ext w w' := by
  obtain ⟨r, hr⟩ : ∃ r, r = fieldsD l ts := ⟨_, rfl⟩
  rw [← hr]
  unfold fieldsD at hr
  have hcall := alls_any h hl
  have hLn := itsB_len l
  obtain ⟨A0, c0, rfl, -, -, -, -⟩ := h.open_
  obtain ⟨At, ct, rfl, -, -, -, ht5⟩ := ht.open_
  change Calls Try.prog 64 #[.slice A0 l.length c0] w fun e w' => ∃ v', e = .returned (.tuple #[v', .int .i64 ((itsB l).2 : Nat)]) ∧ Its w' 112 v' (itsB l).1 ∧ Ext w w' at hcall
  generalize itsB l = o at hcall hLn hr ⊢
  obtain ⟨L, z⟩ := o
  simp only at hcall hLn hr ⊢
  replace hr := Lib.hid hr
  clear h ht
  go_enter Try.func89, Try.ntmps89
  go_wp2_with fail
  refine hcall.mono ?_
  clear hcall
  rintro e w1 ⟨v1, rfl, g1, g2⟩
  obtain ⟨A, c, rfl⟩ := g1.shape
  by_cases hz : z = 0
  · subst hz
    by_cases hle : L.length = ts.length
    · obtain ⟨n, hn⟩ : ∃ n, n = L.length := ⟨_, rfl⟩
      have hn2 := Lib.hid hn
      have hax : ∀ (wx : World), Ext w1 wx → ∀ k, (hk : k < L.length) → ∃ ad Ay m cy, A = some ad ∧ wx.cell? (ad.add (k * 2)) = some (.int .u8 (L[k].1.toNat : Int)) ∧ wx.cell? ⟨(ad.add (k * 2)).block, (ad.add (k * 2)).off + 1, none⟩ = some (.slice Ay m cy) := fun wx hx k hk => by
        obtain ⟨ad, x, e1, e2, e3, e4⟩ := (g1.ext hx).at_ hk
        obtain ⟨Ay, cy, rfl, -, -, -, -⟩ := e4.open_
        exact ⟨ad, Ay, _, cy, e1, e2, e3⟩
      have htx : ∀ (wx : World), Ext w1 wx → ∀ k, (hk : k < ts.length) → ∃ ad, At = some ad ∧ wx.cell? (ad.add k) = some (.int .u8 (ts[k].toNat : Int)) := fun wx hx k hk => by
        obtain ⟨ad, e1, e2, e3⟩ := (ht5.mod (ext_trans g2 hx) (fun _ _ _ h => h)).byte hk
        exact ⟨ad, e1, e3⟩
      have hnt := Lib.hid (show n = ts.length by omega)
      have hits := fun (wx : World) (hx : Ext w1 wx) => g1.ext hx
      clear g1 ht5
      rw [← hn] at hLn hits ⊢
      rw [← hnt.out]
      clear hn hle
      go_wp2_with fail
      go_loopw [26] (fun i wr => ∃ k : Nat, i = .int .i64 k ∧ k ≤ n ∧ Ext w1 wr ∧ (L.take k).map Prod.fst = ts.take k) (fun i _ => n - (intOf i).toNat)
      case atStart => exact ⟨0, rfl, Nat.zero_le _, Mod.refl _ _, rfl⟩
      case round =>
        obtain ⟨k, rfl, hk, hx1, h4⟩ := hrel
        by_cases hlt : k < n
        · have hb : decide ((k : Int) < (n : Int)) = true := dtrue (by omega)
          have hnn := hn2.out
          have hnt' := hnt.out
          obtain ⟨ad, Ay, m, cy, hA, q0, q1⟩ := hax wr hx1 k (by omega)
          obtain ⟨adt, hAt, q2⟩ := htx wr hx1 k (by omega)
          subst hA
          subst hAt
          have hcx := (Mod.refl (fun _ => False) wr).alloc (.cells #[.int .u8 ((L[k]'(by omega)).1.toNat : Int), .slice Ay m cy] 112)
          obtain ⟨adt2, hAt2, q3⟩ := htx _ (ext_trans hx1 hcx) k (by omega)
          injection hAt2 with hAt2
          subst hAt2
          have htk : L.take (k + 1) = L.take k ++ [L[k]'(by omega)] := List.take_succ_eq_append_getElem (by omega)
          have htt : ts.take (k + 1) = ts.take k ++ [ts[k]'(by omega)] := List.take_succ_eq_append_getElem (by omega)
          have hLk : (L.map Prod.fst)[k]? = some (L[k]'(by omega)).1 := by rw [List.getElem?_map, List.getElem?_eq_getElem (by omega)]; rfl
          have htk2 : ts[k]? = some (ts[k]'(by omega)) := List.getElem?_eq_getElem (by omega)
          generalize L[k]'(by omega) = it at *
          generalize ts[k]'(by omega) = tt at *
          obtain ⟨tg, bd⟩ := it
          simp only at q0 hLk hcx q3
          have hk0 : (0 : Int) ≤ (k : Int) := by omega
          have hk1 : (k : Int) < (n : Int) := by omega
          clear hnn hax htx hnt'
          by_cases he : tg = tt
          · subst he
            have hbt : ((tg.toNat : Int) != (tg.toNat : Int)) = false := by simp
            have hmp : (L.take (k + 1)).map Prod.fst = ts.take (k + 1) := by rw [htk, htt, List.map_append, h4]; rfl
            replace hmp := Lib.hid hmp
            clear hLk htk2 htk htt h4
            go_wp2_with fail
            go_quiet (fail)
            go_wp2_with fail
            exact ⟨⟨k + 1, by go_num, by omega, (ext_trans hx1 hcx).drewN _, hmp.out⟩, by simp [intOf] <;> omega⟩
          · have hbt : ((tg.toNat : Int) != (tt.toNat : Int)) = true := bne_iff_ne.2 (fun g => he (UInt8.toNat.inj (by omega)))
            have hrr := hr.out
            rw [decide_eq_false (fun g => he (by rw [g.2, htk2] at hLk; injection hLk with hLk; exact hLk.symm))] at hrr
            subst hrr
            clear hLk htk2 htk htt h4 hits
            go_wp2_with fail
            go_quiet (fail)
            go_wp2_with fail
            go_ret2
            exact ⟨_, rfl, Its.nil _ _, (ext_trans g2 (ext_trans hx1 hcx)).drewN _⟩
        · have hb : decide ((k : Int) < (n : Int)) = false := dfalse (by omega)
          have hkn : k = n := by omega
          subst hkn
          have hrr := hr.out
          have hnt' := hnt.out
          have hn2' := hn2.out
          rw [List.take_of_length_le (show L.length ≤ k by omega), List.take_of_length_le (show ts.length ≤ k by omega)] at h4
          rw [decide_eq_true ⟨trivial, h4⟩] at hrr
          subst hrr
          have hi := hits wr hx1
          clear hax htx h4 hnt' hits hn2'
          go_wp2_with fail
          go_ret2
          exact ⟨_, rfl, hi, ext_trans g2 hx1⟩
    · have hrr := hr.out
      rw [decide_eq_false (fun g => hle (by rw [← g.2, List.length_map]))] at hrr
      subst hrr
      have hb : ((L.length : Int) != (ts.length : Int)) = true := bne_iff_ne.2 (by omega)
      go_wp2_with fail
      go_ret2
      exact ⟨_, rfl, Its.nil _ _, g2⟩
  · have hrr := hr.out
    rw [decide_eq_false (fun g => hz g.1)] at hrr
    subst hrr
    have hb : ((z : Int) != 0) = true := bne_iff_ne.2 (by omega)
    go_wp2_with fail
    go_ret2
    exact ⟨_, rfl, Its.nil _ _, g2⟩
end Go.Proofs.Ytoockogceobfgaa
namespace Go.Proofs.Ytoockogceobfgaa
open Go.RowKit
set_option maxRecDepth 100000

theorem Blk.setRow {w : World} {g : Nat} {t : TypeId} {cs : Array Value} (h : Blk w g t cs) (xs : Array Value) : Blk (w.setRow g xs) g t xs := setRow_heap w g cs xs t (0, 0) h
theorem Mod.setRow {F : Nat → Prop} {a b : World} (h : Mod F a b) {g : Nat} (hp : g < a.heap.size → F g) (xs : Array Value) : Mod F a (b.setRow g xs) :=
  ⟨h.os, h.tape, h.output, by rw [size_setRow]; exact h.size, fun k hk hn => (setRow_other b g k xs (by rintro rfl; exact hn (hp hk))).trans (h.block k hk hn)⟩
theorem size21 : (Try.prog.info? 84).map (·.size) = some 21 := by kernel_rfl
theorem Blk.twoN (w : World) (A B : Array Value) (s t : TypeId) : Blk ((w.alloc (.cells A s)).alloc (.cells B t)) w.heap.size s A ∧ Blk ((w.alloc (.cells A s)).alloc (.cells B t)) (w.heap.size + 1) t B ∧ Ext w ((w.alloc (.cells A s)).alloc (.cells B t)) := by
  refine ⟨(Blk.new w _ _).mod (F := fun _ => False) ((Mod.refl _ _).alloc _) (fun h => h), ?_, ((Mod.refl _ w).alloc _).alloc _⟩
  have h := Blk.new (w.alloc (.cells A s)) t B
  have hs : (w.alloc (.cells A s)).heap.size = w.heap.size + 1 := by simp
  rw [hs] at h
  exact h
theorem eqA0 (w : World) : (binOp .eql 46 (.agg #[.string ⟨#[]⟩, .string ⟨#[]⟩]) (.agg #[.string ⟨#[]⟩, .string ⟨#[]⟩])).run Try.prog w = .ok (.bool true) w := by
  rw [run_eql_struct, run_equalIn_agg w 9999 46 _ _ (by kernel_rfl) (by kernel_rfl)]
  simp only [Program.fieldsOf, Try.underlying46]
  simp [Op.eqFields, part, go_sem]
theorem guardA0 (w : World) (op : BinOp) (x y : Operand) (xs ys : Array Value) : (eqGuard op 46 x y (.agg xs) (.agg ys)).run Try.prog w = .ok () w :=
  run_eqGuard_agg w op _ x y xs ys (by kernel_rfl)

set_option maxHeartbeats 8000000 in
theorem same0_any {w : World} : Calls Try.prog 82 #[.agg #[.int .i64 1, .int .i64 2, .string ⟨#[]⟩, .string ⟨#[]⟩, .int .i64 0, .int .i64 0, .int .i64 0, .string ⟨#[]⟩, .string ⟨#[]⟩, .slice none 0 0, .slice none 0 0, .slice none 0 0, .slice none 0 0, .slice none 0 0, .string ⟨#[]⟩, .bool false, .bool false, .string ⟨#[]⟩, .string ⟨#[]⟩, .string ⟨#[]⟩, .int .i64 0], .agg #[.int .i64 1, .int .i64 2, .string ⟨#[]⟩, .string ⟨#[]⟩, .int .i64 0, .int .i64 0, .int .i64 0, .string ⟨#[]⟩, .string ⟨#[]⟩, .slice none 0 0, .slice none 0 0, .slice none 0 0, .slice none 0 0, .slice none 0 0, .string ⟨#[]⟩, .bool false, .bool false, .string ⟨#[]⟩, .string ⟨#[]⟩, .string ⟨#[]⟩, .int .i64 0]] w fun e w' => e = .returned (.bool true) ∧ Ext w w' := by
  obtain ⟨x2a, x2b, x2⟩ := Blk.twoN w #[.int .i64 1, .int .i64 2, .string ⟨#[]⟩, .string ⟨#[]⟩, .int .i64 0, .int .i64 0, .int .i64 0, .string ⟨#[]⟩, .string ⟨#[]⟩, .slice none 0 0, .slice none 0 0, .slice none 0 0, .slice none 0 0, .slice none 0 0, .string ⟨#[]⟩, .bool false, .bool false, .string ⟨#[]⟩, .string ⟨#[]⟩, .string ⟨#[]⟩, .int .i64 0] #[.int .i64 1, .int .i64 2, .string ⟨#[]⟩, .string ⟨#[]⟩, .int .i64 0, .int .i64 0, .int .i64 0, .string ⟨#[]⟩, .string ⟨#[]⟩, .slice none 0 0, .slice none 0 0, .slice none 0 0, .slice none 0 0, .slice none 0 0, .string ⟨#[]⟩, .bool false, .bool false, .string ⟨#[]⟩, .string ⟨#[]⟩, .string ⟨#[]⟩, .int .i64 0] 84 84
  obtain ⟨w2, hw2⟩ : ∃ x, x = (w.alloc (.cells #[.int .i64 1, .int .i64 2, .string ⟨#[]⟩, .string ⟨#[]⟩, .int .i64 0, .int .i64 0, .int .i64 0, .string ⟨#[]⟩, .string ⟨#[]⟩, .slice none 0 0, .slice none 0 0, .slice none 0 0, .slice none 0 0, .slice none 0 0, .string ⟨#[]⟩, .bool false, .bool false, .string ⟨#[]⟩, .string ⟨#[]⟩, .string ⟨#[]⟩, .int .i64 0] 84)).alloc (.cells #[.int .i64 1, .int .i64 2, .string ⟨#[]⟩, .string ⟨#[]⟩, .int .i64 0, .int .i64 0, .int .i64 0, .string ⟨#[]⟩, .string ⟨#[]⟩, .slice none 0 0, .slice none 0 0, .slice none 0 0, .slice none 0 0, .slice none 0 0, .string ⟨#[]⟩, .bool false, .bool false, .string ⟨#[]⟩, .string ⟨#[]⟩, .string ⟨#[]⟩, .int .i64 0] 84) := ⟨_, rfl⟩
  rw [← hw2] at x2a x2b x2
  obtain ⟨q, hq⟩ : ∃ q, q = w.heap.size + 1 := ⟨_, rfl⟩
  obtain ⟨p, hp⟩ : ∃ p, p = w.heap.size := ⟨_, rfl⟩
  rw [← hq] at x2b
  rw [← hp] at x2a
  have a0 : w2.cell? ⟨p, 0, none⟩ = some (.int .i64 1) := x2a.cell 0
  have a1 : w2.cell? ⟨p, 1, none⟩ = some (.int .i64 2) := x2a.cell 1
  have a2 : w2.cell? ⟨p, 2, none⟩ = some (.string ⟨#[]⟩) := x2a.cell 2
  have a3 : w2.cell? ⟨p, 3, none⟩ = some (.string ⟨#[]⟩) := x2a.cell 3
  have a4 : w2.cell? ⟨p, 4, none⟩ = some (.int .i64 0) := x2a.cell 4
  have a5 : w2.cell? ⟨p, 5, none⟩ = some (.int .i64 0) := x2a.cell 5
  have a6 : w2.cell? ⟨p, 6, none⟩ = some (.int .i64 0) := x2a.cell 6
  have a7 : w2.cell? ⟨p, 7, none⟩ = some (.string ⟨#[]⟩) := x2a.cell 7
  have a8 : w2.cell? ⟨p, 8, none⟩ = some (.string ⟨#[]⟩) := x2a.cell 8
  have a9 : w2.cell? ⟨p, 9, none⟩ = some (.slice none 0 0) := x2a.cell 9
  have a10 : w2.cell? ⟨p, 10, none⟩ = some (.slice none 0 0) := x2a.cell 10
  have a11 : w2.cell? ⟨p, 11, none⟩ = some (.slice none 0 0) := x2a.cell 11
  have a12 : w2.cell? ⟨p, 12, none⟩ = some (.slice none 0 0) := x2a.cell 12
  have a13 : w2.cell? ⟨p, 13, none⟩ = some (.slice none 0 0) := x2a.cell 13
  have a14 : w2.cell? ⟨p, 14, none⟩ = some (.string ⟨#[]⟩) := x2a.cell 14
  have a15 : w2.cell? ⟨p, 15, none⟩ = some (.bool false) := x2a.cell 15
  have a16 : w2.cell? ⟨p, 16, none⟩ = some (.bool false) := x2a.cell 16
  have a17 : w2.cell? ⟨p, 17, none⟩ = some (.string ⟨#[]⟩) := x2a.cell 17
  have a18 : w2.cell? ⟨p, 18, none⟩ = some (.string ⟨#[]⟩) := x2a.cell 18
  have a19 : w2.cell? ⟨p, 19, none⟩ = some (.string ⟨#[]⟩) := x2a.cell 19
  have a20 : w2.cell? ⟨p, 20, none⟩ = some (.int .i64 0) := x2a.cell 20
  have b0 : w2.cell? ⟨q, 0, none⟩ = some (.int .i64 1) := x2b.cell 0
  have b1 : w2.cell? ⟨q, 1, none⟩ = some (.int .i64 2) := x2b.cell 1
  have b2 : w2.cell? ⟨q, 2, none⟩ = some (.string ⟨#[]⟩) := x2b.cell 2
  have b3 : w2.cell? ⟨q, 3, none⟩ = some (.string ⟨#[]⟩) := x2b.cell 3
  have b4 : w2.cell? ⟨q, 4, none⟩ = some (.int .i64 0) := x2b.cell 4
  have b5 : w2.cell? ⟨q, 5, none⟩ = some (.int .i64 0) := x2b.cell 5
  have b6 : w2.cell? ⟨q, 6, none⟩ = some (.int .i64 0) := x2b.cell 6
  have b7 : w2.cell? ⟨q, 7, none⟩ = some (.string ⟨#[]⟩) := x2b.cell 7
  have b8 : w2.cell? ⟨q, 8, none⟩ = some (.string ⟨#[]⟩) := x2b.cell 8
  have b9 : w2.cell? ⟨q, 9, none⟩ = some (.slice none 0 0) := x2b.cell 9
  have b10 : w2.cell? ⟨q, 10, none⟩ = some (.slice none 0 0) := x2b.cell 10
  have b11 : w2.cell? ⟨q, 11, none⟩ = some (.slice none 0 0) := x2b.cell 11
  have b12 : w2.cell? ⟨q, 12, none⟩ = some (.slice none 0 0) := x2b.cell 12
  have b13 : w2.cell? ⟨q, 13, none⟩ = some (.slice none 0 0) := x2b.cell 13
  have b14 : w2.cell? ⟨q, 14, none⟩ = some (.string ⟨#[]⟩) := x2b.cell 14
  have b15 : w2.cell? ⟨q, 15, none⟩ = some (.bool false) := x2b.cell 15
  have b16 : w2.cell? ⟨q, 16, none⟩ = some (.bool false) := x2b.cell 16
  have b17 : w2.cell? ⟨q, 17, none⟩ = some (.string ⟨#[]⟩) := x2b.cell 17
  have b18 : w2.cell? ⟨q, 18, none⟩ = some (.string ⟨#[]⟩) := x2b.cell 18
  have b19 : w2.cell? ⟨q, 19, none⟩ = some (.string ⟨#[]⟩) := x2b.cell 19
  have b20 : w2.cell? ⟨q, 20, none⟩ = some (.int .i64 0) := x2b.cell 20
  have hne := eqA0
  have hgu := fun wx a b => guardA0 wx .eql a b #[.string ⟨#[]⟩, .string ⟨#[]⟩] #[.string ⟨#[]⟩, .string ⟨#[]⟩]
  replace hw2 := Lib.hid hw2
  replace hq := Lib.hid hq
  replace hp := Lib.hid hp
  go_enter Try.func82, Try.ntmps82
  go_upto_region 1 with fail
  rw [← hw2.out, ← hq.out, ← hp.out]
  clear hw2 hq hp
  go_wp2_with fail
  refine eq0_any.mono ?_
  rintro e w3 ⟨rfl, rfl⟩
  go_wp2_with fail
  refine sameAt0_any.mono ?_
  rintro e w3 ⟨rfl, rfl⟩
  go_wp2_with fail
  refine sameF0_any.mono ?_
  rintro e w3 ⟨rfl, x3⟩
  have p312 : w3.cell? ⟨p, 12, none⟩ = some (.slice none 0 0) := (x2a.mod x3 (fun h => h)).cell 12
  have q312 : w3.cell? ⟨q, 12, none⟩ = some (.slice none 0 0) := (x2b.mod x3 (fun h => h)).cell 12
  go_wp2_with fail
  refine eqM0_any.mono ?_
  rintro e w4 ⟨rfl, rfl⟩
  go_wp2_with fail
  go_ret
  exact ⟨rfl, mext_trans x2 x3⟩

set_option maxHeartbeats 8000000 in
theorem bare0_any {w : World} : Calls Try.prog 83 #[.agg #[.int .i64 1, .int .i64 2, .string ⟨#[]⟩, .string ⟨#[]⟩, .int .i64 0, .int .i64 0, .int .i64 0, .string ⟨#[]⟩, .string ⟨#[]⟩, .slice none 0 0, .slice none 0 0, .slice none 0 0, .slice none 0 0, .slice none 0 0, .string ⟨#[]⟩, .bool false, .bool false, .string ⟨#[]⟩, .string ⟨#[]⟩, .string ⟨#[]⟩, .int .i64 0]] w fun e w' => e = .returned (.agg #[.int .i64 1, .int .i64 2, .string ⟨#[]⟩, .string ⟨#[]⟩, .int .i64 0, .int .i64 0, .int .i64 0, .string ⟨#[]⟩, .string ⟨#[]⟩, .slice none 0 0, .slice none 0 0, .slice none 0 0, .slice none 0 0, .slice none 0 0, .string ⟨#[]⟩, .bool false, .bool false, .string ⟨#[]⟩, .string ⟨#[]⟩, .string ⟨#[]⟩, .int .i64 0]) ∧ Ext w w' := by
  obtain ⟨x2a, x2b, x2⟩ := Blk.twoN w #[.int .i64 1, .int .i64 2, .string ⟨#[]⟩, .string ⟨#[]⟩, .int .i64 0, .int .i64 0, .int .i64 0, .string ⟨#[]⟩, .string ⟨#[]⟩, .slice none 0 0, .slice none 0 0, .slice none 0 0, .slice none 0 0, .slice none 0 0, .string ⟨#[]⟩, .bool false, .bool false, .string ⟨#[]⟩, .string ⟨#[]⟩, .string ⟨#[]⟩, .int .i64 0] #[.int .i64 0, .int .i64 0, .string ⟨#[]⟩, .string ⟨#[]⟩, .int .i64 0, .int .i64 0, .int .i64 0, .string ⟨#[]⟩, .string ⟨#[]⟩, .slice none 0 0, .slice none 0 0, .slice none 0 0, .slice none 0 0, .slice none 0 0, .string ⟨#[]⟩, .bool false, .bool false, .string ⟨#[]⟩, .string ⟨#[]⟩, .string ⟨#[]⟩, .int .i64 0] 84 84
  obtain ⟨w2, hw2⟩ : ∃ x, x = (w.alloc (.cells #[.int .i64 1, .int .i64 2, .string ⟨#[]⟩, .string ⟨#[]⟩, .int .i64 0, .int .i64 0, .int .i64 0, .string ⟨#[]⟩, .string ⟨#[]⟩, .slice none 0 0, .slice none 0 0, .slice none 0 0, .slice none 0 0, .slice none 0 0, .string ⟨#[]⟩, .bool false, .bool false, .string ⟨#[]⟩, .string ⟨#[]⟩, .string ⟨#[]⟩, .int .i64 0] 84)).alloc (.cells #[.int .i64 0, .int .i64 0, .string ⟨#[]⟩, .string ⟨#[]⟩, .int .i64 0, .int .i64 0, .int .i64 0, .string ⟨#[]⟩, .string ⟨#[]⟩, .slice none 0 0, .slice none 0 0, .slice none 0 0, .slice none 0 0, .slice none 0 0, .string ⟨#[]⟩, .bool false, .bool false, .string ⟨#[]⟩, .string ⟨#[]⟩, .string ⟨#[]⟩, .int .i64 0] 84) := ⟨_, rfl⟩
  rw [← hw2] at x2a x2b x2
  obtain ⟨q, hq⟩ : ∃ q, q = w.heap.size + 1 := ⟨_, rfl⟩
  have hqw : w.heap.size ≤ q := by omega
  rw [← hq] at x2b
  have B3a : Blk (w2.alloc (.cells #[.int .i64 0, .int .i64 0, .string ⟨#[]⟩, .string ⟨#[]⟩, .int .i64 0, .int .i64 0, .int .i64 0, .string ⟨#[]⟩, .string ⟨#[]⟩, .slice none 0 0, .slice none 0 0, .slice none 0 0, .slice none 0 0, .slice none 0 0, .string ⟨#[]⟩, .bool false, .bool false, .string ⟨#[]⟩, .string ⟨#[]⟩, .string ⟨#[]⟩, .int .i64 0] 84)) w2.heap.size 84 #[.int .i64 0, .int .i64 0, .string ⟨#[]⟩, .string ⟨#[]⟩, .int .i64 0, .int .i64 0, .int .i64 0, .string ⟨#[]⟩, .string ⟨#[]⟩, .slice none 0 0, .slice none 0 0, .slice none 0 0, .slice none 0 0, .slice none 0 0, .string ⟨#[]⟩, .bool false, .bool false, .string ⟨#[]⟩, .string ⟨#[]⟩, .string ⟨#[]⟩, .int .i64 0] := Blk.new w2 _ _
  obtain ⟨w3, hw3⟩ : ∃ x, x = (w2.alloc (.cells #[.int .i64 0, .int .i64 0, .string ⟨#[]⟩, .string ⟨#[]⟩, .int .i64 0, .int .i64 0, .int .i64 0, .string ⟨#[]⟩, .string ⟨#[]⟩, .slice none 0 0, .slice none 0 0, .slice none 0 0, .slice none 0 0, .slice none 0 0, .string ⟨#[]⟩, .bool false, .bool false, .string ⟨#[]⟩, .string ⟨#[]⟩, .string ⟨#[]⟩, .int .i64 0] 84)).setRow w2.heap.size #[.int .i64 1, .int .i64 2, .string ⟨#[]⟩, .string ⟨#[]⟩, .int .i64 0, .int .i64 0, .int .i64 0, .string ⟨#[]⟩, .string ⟨#[]⟩, .slice none 0 0, .slice none 0 0, .slice none 0 0, .slice none 0 0, .slice none 0 0, .string ⟨#[]⟩, .bool false, .bool false, .string ⟨#[]⟩, .string ⟨#[]⟩, .string ⟨#[]⟩, .int .i64 0] := ⟨_, rfl⟩
  obtain ⟨g, hg⟩ : ∃ q, q = w2.heap.size := ⟨_, rfl⟩
  have x3 : Ext w2 w3 := by rw [hw3]; exact ((Mod.refl _ w2).alloc _).setRow (fun h => by omega) _
  have B3 : Blk w3 g 84 #[.int .i64 1, .int .i64 2, .string ⟨#[]⟩, .string ⟨#[]⟩, .int .i64 0, .int .i64 0, .int .i64 0, .string ⟨#[]⟩, .string ⟨#[]⟩, .slice none 0 0, .slice none 0 0, .slice none 0 0, .slice none 0 0, .slice none 0 0, .string ⟨#[]⟩, .bool false, .bool false, .string ⟨#[]⟩, .string ⟨#[]⟩, .string ⟨#[]⟩, .int .i64 0] := by rw [hw3, hg]; exact B3a.setRow #[.int .i64 1, .int .i64 2, .string ⟨#[]⟩, .string ⟨#[]⟩, .int .i64 0, .int .i64 0, .int .i64 0, .string ⟨#[]⟩, .string ⟨#[]⟩, .slice none 0 0, .slice none 0 0, .slice none 0 0, .slice none 0 0, .slice none 0 0, .string ⟨#[]⟩, .bool false, .bool false, .string ⟨#[]⟩, .string ⟨#[]⟩, .string ⟨#[]⟩, .int .i64 0]
  have BR := x2b.mod x3 (fun h => h)
  have BP : Blk w2 w.heap.size 84 #[.int .i64 1, .int .i64 2, .string ⟨#[]⟩, .string ⟨#[]⟩, .int .i64 0, .int .i64 0, .int .i64 0, .string ⟨#[]⟩, .string ⟨#[]⟩, .slice none 0 0, .slice none 0 0, .slice none 0 0, .slice none 0 0, .slice none 0 0, .string ⟨#[]⟩, .bool false, .bool false, .string ⟨#[]⟩, .string ⟨#[]⟩, .string ⟨#[]⟩, .int .i64 0] := x2a
  have p1 : w3.cell? ⟨w.heap.size, 1, none⟩ = some (.int .i64 2) := (BP.mod x3 (fun h => h)).cell 1
  have hp0 : w2.cell? ⟨w.heap.size, 0, none⟩ = some (.int .i64 1) := BP.cell 0
  have hp1 : w2.cell? ⟨w.heap.size, 1, none⟩ = some (.int .i64 2) := BP.cell 1
  replace hw2 := Lib.hid hw2
  replace hq := Lib.hid hq
  replace hw3 := Lib.hid hw3
  replace hg := Lib.hid hg
  go_enter Try.func83, Try.ntmps83
  go_upto_region 1 with fail
  rw [← hw2.out, ← hq.out]
  go_upto_region 2 with ((with_reducible show wpList _ _ _ (⟨none, .store 84 _ _, _, _, _, _⟩ :: _) _ _); refine wpList_store_row rfl 84 (.tmp 3) (.tmp 8) rfl w2.heap.size #[.int .i64 1, .int .i64 2, .string ⟨#[]⟩, .string ⟨#[]⟩, .int .i64 0, .int .i64 0, .int .i64 0, .string ⟨#[]⟩, .string ⟨#[]⟩, .slice none 0 0, .slice none 0 0, .slice none 0 0, .slice none 0 0, .slice none 0 0, .string ⟨#[]⟩, .bool false, .bool false, .string ⟨#[]⟩, .string ⟨#[]⟩, .string ⟨#[]⟩, .int .i64 0] rfl rfl _ _ B3a size21 rfl (by simp [Value.oneCell']) ?_)
  rw [← hw3.out, ← hg.out]
  clear hw2 hq hw3 hg hp0 hp1 B3a
  go_wp2_with (first
    | ((with_reducible show wpList _ _ _ (⟨some 13, _, _, _, _, _⟩ :: _) _ _); refine wpList_load_row rfl 84 (.tmp 3) rfl g rfl _ _ _ _ B3 Try.underlying84 rfl size21 ?_)
    | ((with_reducible show wpList _ _ _ (⟨none, .store 84 _ _, _, _, _, _⟩ :: _) _ _); refine wpList_store_row rfl 84 (.tmp 2) (.tmp 13) rfl q #[.int .i64 1, .int .i64 2, .string ⟨#[]⟩, .string ⟨#[]⟩, .int .i64 0, .int .i64 0, .int .i64 0, .string ⟨#[]⟩, .string ⟨#[]⟩, .slice none 0 0, .slice none 0 0, .slice none 0 0, .slice none 0 0, .slice none 0 0, .string ⟨#[]⟩, .bool false, .bool false, .string ⟨#[]⟩, .string ⟨#[]⟩, .string ⟨#[]⟩, .int .i64 0] rfl rfl _ _ BR size21 rfl (by simp [Value.oneCell']) ?_))
  refine bodyPost_ret (results_cell_row Try.results83 _ _ _ _ _ _ _ rfl (BR.setRow #[.int .i64 1, .int .i64 2, .string ⟨#[]⟩, .string ⟨#[]⟩, .int .i64 0, .int .i64 0, .int .i64 0, .string ⟨#[]⟩, .string ⟨#[]⟩, .slice none 0 0, .slice none 0 0, .slice none 0 0, .slice none 0 0, .slice none 0 0, .string ⟨#[]⟩, .bool false, .bool false, .string ⟨#[]⟩, .string ⟨#[]⟩, .string ⟨#[]⟩, .int .i64 0]) Try.underlying84 rfl (by exact size21)) rfl ?_
  exact ⟨rfl, (mext_trans x2 x3).setRow (fun h => by omega) _⟩
end Go.Proofs.Ytoockogceobfgaa
namespace Go.Proofs.Ytoockogceobfgaa
open Go.RowKit
set_option maxRecDepth 100000

theorem results_rowB {P : Program} {fn : Func} {p u : Tmp} {ty : TypeId} (h : fn.results = #[.cell p ty, .tmp u]) (tmps : Array Value) (w : World) (g : Nat) (t : TypeId) (cs : Array Value) (fr : Nat × Nat) (d : TypeDesc)
    (hp : tmps.getD p undef = .pointer (some ⟨g, 0, none⟩)) (hg : w.heap[g]? = some (.cells cs t fr))
    (hu : P.underlying ty = some d) (hd : (match d with | .struct _ | .array _ _ => true | _ => false) = true) (hi : (P.info? ty).map (·.size) = some cs.size) :
    (results fn tmps).run P w = .ok (.tuple #[.agg cs, tmps.getD u undef]) w := by
  have hp' : tmps[p]?.getD undef = .pointer (some ⟨g, 0, none⟩) := by simpa using hp
  rw [results_cell_tmp h]
  simp [hp', asAddr, Result.andThen, run_loadVar_row w g t ty cs fr d hg hu hd hi]
theorem bnext_body (l : List UInt8) : (bnext l).2.1.length ≤ l.length := by
  unfold bnext
  split
  · simp only [List.length_take, List.length_drop]; omega
  · simp
theorem balls_le (n : Nat) : ∀ (l : List UInt8) (acc : List (UInt8 × List UInt8)) (x : UInt8 × List UInt8), x ∈ (balls n l acc).1 → x ∈ acc ∨ x.2.length ≤ l.length := by
  induction n with
  | zero => intro l acc x h; exact .inl h
  | succ n ih =>
    intro l acc x h
    unfold balls at h
    split at h
    · exact .inl h
    · split at h
      · rename_i he
        have hsh := bnext_short he
        rcases ih _ _ x h with h1 | h1
        · rcases List.mem_append.1 h1 with h2 | h2
          · exact .inl h2
          · rw [List.mem_singleton.1 h2]
            exact .inr (bnext_body l)
        · exact .inr (by omega)
      · cases h
theorem itsB_le {l : List UInt8} {x : UInt8 × List UInt8} (h : x ∈ (itsB l).1) : x.2.length ≤ l.length := by
  rcases balls_le _ _ _ x h with h1 | h1
  · cases h1
  · exact h1
/-- An item as an attribute. -/
def attrD (t : UInt8) (l : List UInt8) : Option Att :=
  if fieldsD l [4, 49] = true ∧ t = 48 then (textsD ((itsB l).1.getD 1 (0, [])).2).map (fun vs => ⟨((itsB l).1.getD 0 (0, [])).2, vs⟩) else none
theorem setP_mod (w : World) (g : Nat) (p q : Value) : Mod (fun k => k = g) w ((w.setCell ⟨g, 0, none⟩ p).setCell ⟨g, 1, none⟩ q) := ((Mod.refl (fun k => k = g) w).setCell (p := ⟨g, 0, none⟩) (fun _ => rfl) p).setCell (p := ⟨g, 1, none⟩) (fun _ => rfl) q
theorem fields_two {l : List UInt8} {a b : UInt8} (h : fieldsD l [a, b] = true) : ∃ x y, (itsB l).1 = [(a, x), (b, y)] := by
  have h2 := (of_decide_eq_true h).2
  revert h2
  generalize (itsB l).1 = L
  intro h2
  rcases L with _ | ⟨p, _ | ⟨q, _ | ⟨r, L⟩⟩⟩
  · simp at h2
  · simp at h2
  · simp at h2
    exact ⟨p.2, q.2, by rw [← h2.1, ← h2.2]⟩
  · simp at h2

set_option maxHeartbeats 8000000 in
theorem attrOf_any {w : World} {S : Nat → Prop} {x : Value} {l : List UInt8} (t : UInt8) (h : Bs w S x l) (hl : l.length ≤ 100000) :
    Calls Try.prog 79 #[.agg #[.int .u8 (t.toNat : Int), x]] w fun e w' => ∃ T vb vs, e = .returned (.tuple #[.agg #[sv T, vb], .bool (attrD t l).isSome]) ∧ Own w' 9 vb (vs.map sv) ∧ Fresh w.heap.size vb ∧ Ext w w' ∧ (∀ a, attrD t l = some a → T = a.typ ∧ vs = a.vals) := by
  obtain ⟨r, hr⟩ : ∃ r, r = attrD t l := ⟨_, rfl⟩
  rw [← hr]
  unfold attrD at hr
  obtain ⟨A, c, hxA, -, -, -, -⟩ := h.open_
  obtain ⟨B0, B1, hx⟩ := Blk.twoN w #[.int .u8 (t.toNat : Int), x] #[.string ⟨#[]⟩, .slice none 0 0] 112 55
  obtain ⟨w2, hw2⟩ : ∃ y, y = (w.alloc (.cells #[.int .u8 (t.toNat : Int), x] 112)).alloc (.cells #[.string ⟨#[]⟩, .slice none 0 0] 55) := ⟨_, rfl⟩
  rw [← hw2] at B0 B1 hx
  have hb2 := h.ext hx
  subst hxA
  have hlit : Bs (w2.alloc (.cells #[.int .u8 4, .int .u8 49] 5)) (fun k => k = w2.heap.size) (.slice (some ⟨w2.heap.size, 0, none⟩) 2 2) [4, 49] := Sl.lit w2 5 [.int .u8 4, .int .u8 49] (by simp [maxLen])
  have x3 : Ext w2 (w2.alloc (.cells #[.int .u8 4, .int .u8 49] 5)) := (Mod.refl _ w2).alloc _
  obtain ⟨w3, hw3⟩ : ∃ y, y = w2.alloc (.cells #[.int .u8 4, .int .u8 49] 5) := ⟨_, rfl⟩
  rw [← hw3] at hlit x3
  have hcall := fields_any (hb2.ext x3) hl hlit
  have e1 : _ = some _ := Blk.cell B0 1
  have sz2 : w2.heap.size = w.heap.size + 2 := by rw [hw2]; simp
  clear h hb2 hlit
  replace hr := Lib.hid hr
  replace hw2 := Lib.hid hw2
  replace hw3 := Lib.hid hw3
  replace sz2 := Lib.hid sz2
  go_enter Try.func79, Try.ntmps79
  go_upto_region 1 with fail
  rw [← hw2.out]
  go_wp2_with fail
  rw [← hw3.out]
  refine hcall.mono ?_
  clear hcall
  rintro e w4 ⟨v1, rfl, g1, g2⟩
  have x4 := ext_trans x3 g2
  have x04 := ext_trans hx x4
  have B0' := B0.mod x4 (fun h => h)
  have B1' := B1.mod x4 (fun h => h)
  have f0 := Blk.frozen B1' 0
  have f1 := Blk.frozen B1' 1
  have c0 : _ = some _ := Blk.cell B1' 0
  have c1 : _ = some _ := Blk.cell B1' 1
  have d0 : _ = some _ := Blk.cell B0' 0
  have c0' := c0
  clear B0 B1 e1 x3 hx g2 x4
  have fin : ∀ (wx : World) (p q : Value), Ext w wx → Ext w ((wx.setCell ⟨w.heap.size + 1, 0, none⟩ p).setCell ⟨w.heap.size + 1, 1, none⟩ q) := fun wx p q hxx => hxx.trans (setP_mod wx (w.heap.size + 1) p q) (fun _ _ h => h) (fun k hk e => by omega)
  have hno : ∀ w', Own w' 9 (.slice none 0 0) (([] : List (List UInt8)).map sv) := fun w' => Own.nil _ _
  cases hq : fieldsD l [4, 49] with
  | false =>
    rw [hq] at g1
    have hrr := hr.out
    rw [hq, if_neg (fun g => by cases g.1)] at hrr
    subst hrr
    have R5 := (B1'.set_ 0 (.string ⟨#[]⟩)).set_ 1 (.slice none 0 0)
    obtain ⟨Aq, cq, rfl⟩ := g1.shape
    go_wp2_with fail
    refine bodyPost_ret (results_rowB Try.results79 _ _ _ _ _ _ _ rfl R5 Try.underlying55 rfl (by kernel_rfl)) rfl ?_
    exact ⟨[], _, [], rfl, hno _, fresh_nil _ _ _, fin _ _ _ x04, fun a ha => by cases ha⟩
  | true =>
    obtain ⟨X, Y, hXY⟩ := fields_two hq
    have hrr := hr.out
    rw [hq, hXY] at hrr
    rw [hq, if_pos rfl, hXY] at g1
    have hYl : Y.length ≤ 100000 := by
      have h1 := @itsB_le l (49, Y) (by rw [hXY]; simp)
      have h2 : Y.length ≤ l.length := h1
      omega
    by_cases ht : t = 48
    · subst ht
      rw [if_pos ⟨rfl, rfl⟩] at hrr
      have hts : ((48 : UInt8).toNat : Int) = 48 := rfl
      obtain ⟨Aq, cq, rfl⟩ := g1.shape
      obtain ⟨ad, x0, hA0, i0, i1, i2⟩ := g1.at_ (i := 0) (by simp)
      obtain ⟨ad2, x1, hA1, j0, j1, j2⟩ := g1.at_ (i := 1) (by simp)
      subst hA0
      injection hA1 with hA1
      subst hA1
      simp only [List.getElem_cons_zero, List.getElem_cons_succ] at i2 j2
      obtain ⟨Ax, cx, rfl, -, -, -, -⟩ := i2.open_
      obtain ⟨Ay, cy, rfl, -, -, -, -⟩ := j2.open_
      have hcall := textsOf_any j2 hYl
      simp only [List.getD_cons_succ, List.getD_cons_zero] at hrr
      generalize textsD Y = TY at hcall hrr
      replace hrr := Lib.hid hrr
      have i1' : w4.cell? ⟨ad.block, ad.off + 1, none⟩ = some (.slice Ax X.length cx) := i1
      have j1' : w4.cell? ⟨ad.block, ad.off + 2 + 1, none⟩ = some (.slice Ay Y.length cy) := j1
      clear g1 i0 j0 i1 j1 hXY j2
      go_wp2_with fail
      refine hcall.mono ?_
      clear hcall
      rintro e w5 ⟨v2, rfl, k1, k2, k3⟩
      have i5 := (k3.cell (lt_of_cell i1') (fun h => h)).trans i1'
      have hc5 := i2.ext k3
      have z1 := run_conv (P := Try.prog) Try.underlying26 Try.underlying5 Try.underlying9 hc5
      have x05 := ext_trans x04 k3
      have B15 := B1'.mod k3 (fun h => h)
      clear f0 f1 c0 c1 d0 B0' B1' i1' j1' i2 hc5
      have f0 := Blk.frozen B15 0
      have f1 := Blk.frozen B15 1
      have c0 : _ = some _ := Blk.cell B15 0
      have c1 : _ = some _ := Blk.cell B15 1
      have R5 := (B15.set_ 0 (sv X)).set_ 1 v2
      have hfv := fresh_le k2 x04.size
      have hwl : w.heap.size + 1 < w4.heap.size := lt_of_cell c0'
      have ho5 := k1.mod (setP_mod w5 (w.heap.size + 1) (sv X) v2) (fun b hb e => by have := k2 b hb; omega)
      obtain ⟨Av, cv, ev⟩ := k1.shape
      rw [List.length_map] at ev
      subst ev
      go_wp2_with fail
      refine bodyPost_ret (results_rowB Try.results79 _ _ _ _ _ _ _ rfl R5 Try.underlying55 rfl (by kernel_rfl)) rfl ?_
      refine ⟨X, _, TY.getD [], ?_, ho5, hfv, fin _ _ _ x05, ?_⟩
      · rw [hrr.out]
        cases TY <;> rfl
      · intro a ha
        rw [hrr.out] at ha
        cases TY with
        | none => cases ha
        | some vs => cases ha; exact ⟨rfl, rfl⟩
    · have hbt : ((t.toNat : Int) != 48) = true := bne_iff_ne.2 (fun g => ht (UInt8.toNat.inj (by have : (48 : UInt8).toNat = 48 := rfl; omega)))
      rw [if_neg (fun g => ht g.2)] at hrr
      subst hrr
      have R5 := (B1'.set_ 0 (.string ⟨#[]⟩)).set_ 1 (.slice none 0 0)
      obtain ⟨Aq, cq, rfl⟩ := g1.shape
      go_wp2_with fail
      refine bodyPost_ret (results_rowB Try.results79 _ _ _ _ _ _ _ rfl R5 Try.underlying55 rfl (by kernel_rfl)) rfl ?_
      exact ⟨[], _, [], rfl, hno _, fresh_nil _ _ _, fin _ _ _ x04, fun a ha => by cases ha⟩
end Go.Proofs.Ytoockogceobfgaa
