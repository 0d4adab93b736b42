/- ber: any number as bytes, and back; any bytes as a number, and as whether: the statement's own walk. -/
import Derived.Test.YtoockogceobfgaaGreatRegAm
import Derived.Deep.DeepCutAuto
import Derived.Deep.RegionHeld3
import Derived.BigQuiet
import Derived.Deep.QuietTactic
import Derived.Test.YtoockogceobfgaaGreatFlE
import Derived.Test.YtoockogceobfgaaGreatEnxm
import Derived.Laws.IdiomStrings
import Derived.Shelf.Spec.SlicesGrow
namespace Go.Proofs.YtoockogceobfgaaGreat
open Go.RowKit
set_option maxRecDepth 100000

theorem fits_mono {n : Int} {k : Nat} (h1 : 1 ≤ k) (h7 : k ≤ 7) (h : FitsI n k) : FitsI n (k + 1) := by
  obtain rfl | rfl | rfl | rfl | rfl | rfl | rfl : k = 1 ∨ k = 2 ∨ k = 3 ∨ k = 4 ∨ k = 5 ∨ k = 6 ∨ k = 7 := by omega
  · unfold FitsI at h ⊢
    rw [show (2 : Int) ^ (8 * 1 - 1) = 128 by decide] at h
    rw [show (2 : Int) ^ (8 * (1 + 1) - 1) = 32768 by decide]
    omega
  · unfold FitsI at h ⊢
    rw [show (2 : Int) ^ (8 * 2 - 1) = 32768 by decide] at h
    rw [show (2 : Int) ^ (8 * (2 + 1) - 1) = 8388608 by decide]
    omega
  · unfold FitsI at h ⊢
    rw [show (2 : Int) ^ (8 * 3 - 1) = 8388608 by decide] at h
    rw [show (2 : Int) ^ (8 * (3 + 1) - 1) = 2147483648 by decide]
    omega
  · unfold FitsI at h ⊢
    rw [show (2 : Int) ^ (8 * 4 - 1) = 2147483648 by decide] at h
    rw [show (2 : Int) ^ (8 * (4 + 1) - 1) = 549755813888 by decide]
    omega
  · unfold FitsI at h ⊢
    rw [show (2 : Int) ^ (8 * 5 - 1) = 549755813888 by decide] at h
    rw [show (2 : Int) ^ (8 * (5 + 1) - 1) = 140737488355328 by decide]
    omega
  · unfold FitsI at h ⊢
    rw [show (2 : Int) ^ (8 * 6 - 1) = 140737488355328 by decide] at h
    rw [show (2 : Int) ^ (8 * (6 + 1) - 1) = 36028797018963968 by decide]
    omega
  · exact fits8 n
theorem fits_le {n : Int} {k : Nat} (h1 : 1 ≤ k) (h : FitsI n k) : ∀ d, k + d ≤ 8 → FitsI n (k + d)
  | 0, _ => h
  | d + 1, hd => fits_mono (k := k + d) (by omega) (by omega) (fits_le h1 h d (by omega))
theorem isw_uniq {n : Int} {k m : Nat} (h : IsW n k) (h' : IsW n m) : k = m := by
  have key : ∀ {a b : Nat}, IsW n a → IsW n b → ¬ a < b := fun {a b} ha hb hlt => by
    rcases hb.2.2.2 with h | h
    · have := ha.1; omega
    · have := fits_le ha.1 ha.2.2.1 (b - 1 - a) (by have := hb.2.1; omega)
      rw [show a + (b - 1 - a) = b - 1 by omega] at this
      exact h this
  have h1 := key h h'
  have h2 := key h' h
  omega
theorem fits_range {n : Int} {k : Nat} (h1 : 1 ≤ k) (h8 : k ≤ 8) (h0 : -9223372036854775808 ≤ n) (h9 : n ≤ 9223372036854775807) (h : FitsI n k) : -((2 ^ (8 * k) : Nat) : Int) ≤ 2 * n ∧ 2 * n < ((2 ^ (8 * k) : Nat) : Int) := by
  obtain rfl | rfl | rfl | rfl | rfl | rfl | rfl | rfl : k = 1 ∨ k = 2 ∨ k = 3 ∨ k = 4 ∨ k = 5 ∨ k = 6 ∨ k = 7 ∨ k = 8 := by omega
  · unfold FitsI at h
    rw [show (2 : Int) ^ (8 * 1 - 1) = 128 by decide] at h
    rw [show (2 : Nat) ^ (8 * 1) = 256 by decide]
    omega
  · unfold FitsI at h
    rw [show (2 : Int) ^ (8 * 2 - 1) = 32768 by decide] at h
    rw [show (2 : Nat) ^ (8 * 2) = 65536 by decide]
    omega
  · unfold FitsI at h
    rw [show (2 : Int) ^ (8 * 3 - 1) = 8388608 by decide] at h
    rw [show (2 : Nat) ^ (8 * 3) = 16777216 by decide]
    omega
  · unfold FitsI at h
    rw [show (2 : Int) ^ (8 * 4 - 1) = 2147483648 by decide] at h
    rw [show (2 : Nat) ^ (8 * 4) = 4294967296 by decide]
    omega
  · unfold FitsI at h
    rw [show (2 : Int) ^ (8 * 5 - 1) = 549755813888 by decide] at h
    rw [show (2 : Nat) ^ (8 * 5) = 1099511627776 by decide]
    omega
  · unfold FitsI at h
    rw [show (2 : Int) ^ (8 * 6 - 1) = 140737488355328 by decide] at h
    rw [show (2 : Nat) ^ (8 * 6) = 281474976710656 by decide]
    omega
  · unfold FitsI at h
    rw [show (2 : Int) ^ (8 * 7 - 1) = 36028797018963968 by decide] at h
    rw [show (2 : Nat) ^ (8 * 7) = 72057594037927936 by decide]
    omega
  · unfold FitsI at h
    rw [show (2 : Int) ^ (8 * 8 - 1) = 9223372036854775808 by decide] at h
    rw [show (2 : Nat) ^ (8 * 8) = 18446744073709551616 by decide]
    omega
theorem sval_bes {n : Int} {k : Nat} (hk : IsW n k) (h0 : -9223372036854775808 ≤ n) (h9 : n ≤ 9223372036854775807) : sval (bes n k) = n := by
  have hr := fits_range hk.1 hk.2.1 h0 h9 hk.2.2.1
  have hne : bes n k ≠ [] := by intro h; have := congrArg List.length h; rw [bes_len] at this; have := hk.1; simp at *; omega
  have hb := sval_bd hne
  have hu := uval_bes n k
  have hp : ((2 ^ (8 * k) : Nat) : Int) = (2 : Int) ^ (8 * k) := by simp
  rw [← hp] at hu
  unfold sval at hb ⊢
  rw [bes_len] at hb ⊢
  have hP : 0 < 2 ^ (8 * k) := Nat.two_pow_pos _
  generalize 2 ^ (8 * k) = P at *
  have hm : n % (P : Int) = n ∨ n % (P : Int) = n + P := by
    by_cases hn : 0 ≤ n
    · exact .inl (Int.emod_eq_of_lt hn (by omega))
    · refine .inr ?_
      rw [← Int.add_emod_right n (P : Int)]
      exact Int.emod_eq_of_lt (by omega) (by omega)
  generalize n % (P : Int) = r at *
  split at hb <;> rename_i hc
  · rw [if_pos hc]; omega
  · rw [if_neg hc]; omega
theorem frm_bes {n : Int} {k : Nat} (hk : IsW n k) (h0 : -9223372036854775808 ≤ n) (h9 : n ≤ 9223372036854775807) : frm (bes n k) = (n, 0) := by
  unfold frm
  rw [bes_len, if_neg (by have := hk.1; have := hk.2.1; omega), sval_bes hk h0 h9]
theorem fbo_bool (q : Bool) : fbo [if q then 255 else 0] = (q, 0) := by cases q <;> decide

end Go.Proofs.YtoockogceobfgaaGreat
namespace Go.Proofs.YtoockogceobfgaaGreat
open Go.RowKit
set_option maxRecDepth 100000

abbrev tlv (t : UInt8) (l : List UInt8) : List UInt8 := t :: lay l.length ++ l
instance (n : Int) (k : Nat) : Decidable (FitsI n k) := by unfold FitsI; infer_instance
/-- How many bytes a number has. -/
def kI (n : Int) : Nat := ((List.range 8).find? fun k => decide (FitsI n (k + 1))).getD 7 + 1
abbrev iB (n : Int) : List UInt8 := bes n (kI n)
theorem isw_kI (n : Int) : IsW n (kI n) := by
  unfold kI
  cases h : (List.range 8).find? fun k => decide (FitsI n (k + 1)) with
  | none =>
    have h1 := List.find?_eq_none.1 h 7 (by decide)
    exact absurd (fits8 n) (by simpa using h1)
  | some k =>
    have hk := List.find?_some h
    have hm := List.mem_of_find?_eq_some h
    have hl : k < 8 := List.mem_range.1 hm
    rw [Option.getD_some]
    refine ⟨by omega, by omega, by simpa using hk, ?_⟩
    by_cases h0 : k = 0
    · exact .inl (by omega)
    · refine .inr fun hf => ?_
      obtain ⟨pre, suf, e, h3⟩ := (List.find?_eq_some_iff_append.1 h).2
      have hlen : pre.length = k := by
        have e2 : (List.range 8)[pre.length]? = some k := by rw [e]; simp
        have hlt : pre.length < 8 := by have := congrArg List.length e; simp at this; omega
        rw [List.getElem?_range hlt] at e2
        exact Option.some.inj e2
      have hmem : k - 1 ∈ pre := by
        have e2 : pre = (List.range 8).take pre.length := by rw [e]; simp
        rw [e2, hlen]
        exact List.mem_take_iff_getElem.2 ⟨k - 1, by simp; omega, by simp⟩
      have h4 := h3 (k - 1) hmem
      have h5 : k - 1 + 1 = k := by omega
      rw [h5] at h4
      have hf2 : FitsI n k := by simpa using hf
      simp [hf2] at h4
theorem isw_iB {n : Int} {k : Nat} (h : IsW n k) : bes n k = iB n := by rw [isw_uniq h (isw_kI n)]
abbrev txB (s : List UInt8) : List UInt8 := tlv 4 s
abbrev nuB (t : UInt8) (n : Int) : List UInt8 := tlv t (iB n)
abbrev txsB (t : UInt8) (l : List (List UInt8)) : List UInt8 := tlv t (l.flatMap txB)
abbrev atB (typ : List UInt8) (vals : List (List UInt8)) : List UInt8 := tlv 48 (txB typ ++ txsB 49 vals)
abbrev atsB (l : List Att) : List UInt8 := tlv 48 (l.flatMap fun a => atB a.typ a.vals)
/-- A piece of a Sub: empty ends do not stand there. -/
def pie1 (L : List (List UInt8)) (i : Nat) : List (List UInt8) :=
  if 0 < i ∧ i + 1 < L.length then [tlv 129 (L.getD i [])] else if L.getD i [] = [] then [] else if i = 0 then [tlv 128 (L.getD i [])] else [tlv 130 (L.getD i [])]
def pieB (L : List (List UInt8)) : List (List UInt8) := (List.range L.length).flatMap (pie1 L)
/-- A filter's bytes. -/
def filB : Nat → Fi → List UInt8
  | 0, _ => []
  | n + 1, F =>
    if F.kind = 7 then tlv 135 F.typ else
    if F.kind = 4 then tlv 164 (txB F.typ ++ tlv 48 (pieB F.subs).flatten) else
    if F.kind = 3 ∨ F.kind = 5 ∨ F.kind = 6 then tlv (UInt8.ofNat (160 + F.kind).toNat) (txB F.typ ++ txB F.val) else
    tlv (UInt8.ofNat (160 + F.kind).toNat) (F.kids.map (filB n)).flatten
/-- A change. -/
structure Md where
  kind : Int
  typ : List UInt8
  vals : List (List UInt8)
abbrev mdB (m : Md) : List UInt8 := tlv 48 (nuB 10 m.kind ++ atB m.typ m.vals)
/-- A request; fil is so deep at most bs depth says. -/
structure Rq where
  num : Int
  kind : Int
  dn : List UInt8
  pass : List UInt8
  scope : Int
  limit : Int
  fil : Fi
  want : List (List UInt8)
  mods : List Md
  ats : List Att
  rdn : List UInt8
  keep : Bool
  above : Bool
  up : List UInt8
  avt : List UInt8
  avv : List UInt8
  which : Int
abbrev boB (q : Bool) : List UInt8 := tlv 1 [if q then 255 else 0]
/-- What stands under the tag of its operation. -/
def bodyB (d : Nat) (r : Rq) : List UInt8 :=
  if r.kind = 0 then nuB 2 3 ++ txB r.dn ++ tlv 128 r.pass else
  if r.kind = 3 then txB r.dn ++ nuB 10 r.scope ++ nuB 10 0 ++ nuB 2 r.limit ++ nuB 2 0 ++ boB false ++ filB d r.fil ++ txsB 48 r.want else
  if r.kind = 6 then txB r.dn ++ tlv 48 (r.mods.flatMap mdB) else
  if r.kind = 8 then txB r.dn ++ atsB r.ats else
  if r.kind = 10 then r.dn else
  if r.kind = 12 then txB r.dn ++ txB r.rdn ++ boB (!r.keep) ++ (if r.above then tlv 128 r.up else []) else
  if r.kind = 14 then txB r.dn ++ tlv 48 (txB r.avt ++ txB r.avv) else
  if r.kind = 16 then iB r.which else []
def opT (k : Int) : UInt8 := if k = 2 ∨ k = 10 ∨ k = 16 then UInt8.ofNat (64 + k).toNat else UInt8.ofNat (96 + k).toNat
abbrev reqB (d : Nat) (r : Rq) : List UInt8 := tlv 48 (nuB 2 r.num ++ tlv (opT r.kind) (bodyB d r))
end Go.Proofs.YtoockogceobfgaaGreat
namespace Go.Proofs.YtoockogceobfgaaGreat
open Go.RowKit
set_option maxRecDepth 100000

def ffin (at_ n len : Nat) : Nat × Nat := if 65536 < at_ + n then (0, 5) else if len < at_ + n then (0, 0) else (at_ + n, 0)
/-- How many bytes the first message has. -/
def mframe (l : List UInt8) : Nat × Nat :=
  if l.length = 0 then (0, 0)
  else if (l.getD 0 0).toNat ≠ 48 then (0, 3)
  else if l.length = 1 then (0, 0)
  else if (l.getD 1 0).toNat < 128 then ffin 2 (l.getD 1 0).toNat l.length
  else if (l.getD 1 0).toNat - 128 = 0 ∨ 4 < (l.getD 1 0).toNat - 128 then (0, 3)
  else if l.length < 2 + ((l.getD 1 0).toNat - 128) then (0, 0)
  else ffin (2 + ((l.getD 1 0).toNat - 128)) (uval ((l.drop 2).take ((l.getD 1 0).toNat - 128))) l.length
theorem ffin_le (a n len : Nat) : (ffin a n len).1 ≤ len := by unfold ffin; split <;> (try split) <;> simp <;> omega
theorem mframe_le (l : List UInt8) : (mframe l).1 ≤ l.length := by
  unfold mframe
  repeat' split
  all_goals first | exact Nat.zero_le _ | exact ffin_le _ _ _

set_option maxHeartbeats 4000000 in
theorem frame_any {w : World} {S : Nat → Prop} {v : Value} {l : List UInt8} (h : Bs w S v l) (hl : l.length ≤ 3000) :
    Calls Tryz.prog 16 #[v] w fun e w' => e = .returned (.tuple #[.int .i64 ((mframe l).1 : Nat), .int .i64 ((mframe l).2 : Nat)]) ∧ w' = w := by
  obtain ⟨o, ho⟩ : ∃ o, o = mframe l := ⟨_, rfl⟩
  rw [← ho]
  unfold mframe at ho
  obtain ⟨A, c, rfl, h1, h2, h3, h4⟩ := h.open_
  by_cases e0 : l.length = 0
  · rw [if_pos e0] at ho
    subst ho
    have hb : ((l.length : Int) == 0) = true := by rw [e0]; rfl
    have hbx : decide ((l.length : Int) < 1) = true := dtrue (by omega)
    have hby : decide (l.length < 1) = true := dtrue (by omega)
    have hbz : (l.length == 0) = true := by rw [beq_iff_eq]; exact e0
    go_enter Tryz.func16, Tryz.ntmps16
    go_wp2_with fail
    go_ret2
    exact ⟨rfl, rfl⟩
  rw [if_neg e0] at ho
  have hb0 : ((l.length : Int) == 0) = false := by rw [beq_eq_false_iff_ne]; omega
  have hb0x : decide ((l.length : Int) < 1) = false := dfalse (by omega)
  have hb0y : decide (l.length < 1) = false := dfalse (by omega)
  obtain ⟨ad, hA, hB, hc0⟩ := h4.byte (k := 0) (by omega)
  subst hA
  rw [show ad.add 0 = ad by simp [Addr.add]] at hc0
  have hg0 : (l.getD 0 0).toNat = l[0].toNat := by rw [List.getD_eq_getElem?_getD, List.getElem?_eq_getElem (by omega)]; rfl
  rw [hg0] at ho
  have hp := l[0].toNat_lt
  clear hg0
  generalize l[0].toNat = p0 at *
  have hi0 : 0 < l.length := by omega
  have hi0x : 0 < (l.length : Int) := by omega
  by_cases e1 : p0 ≠ 48
  · rw [if_pos e1] at ho
    subst ho
    have hb1 : ((p0 : Int) != 48) = true := by rw [bne_iff_ne]; omega
    go_enter Tryz.func16, Tryz.ntmps16
    go_wp2_with fail
    go_ret2
    exact ⟨rfl, rfl⟩
  rw [if_neg e1] at ho
  obtain rfl : p0 = 48 := by omega
  have hb1 : (((48 : Nat) : Int) != 48) = false := rfl
  by_cases e2 : l.length = 1
  · rw [if_pos e2] at ho
    subst ho
    have hb2 : ((l.length : Int) == 1) = true := by rw [e2]; rfl
    have hb2x : decide ((l.length : Int) < 2) = true := dtrue (by omega)
    have hb2y : decide (l.length < 2) = true := dtrue (by omega)
    go_enter Tryz.func16, Tryz.ntmps16
    go_wp2_with fail
    go_ret2
    exact ⟨rfl, rfl⟩
  rw [if_neg e2] at ho
  have hb2 : ((l.length : Int) == 1) = false := by rw [beq_eq_false_iff_ne]; omega
  have hb2x : decide ((l.length : Int) < 2) = false := dfalse (by omega)
  have hb2y : decide (l.length < 2) = false := dfalse (by omega)
  obtain ⟨ad', hA', hB', hc1⟩ := h4.byte (k := 1) (by omega)
  injection hA' with hA'
  subst hA'
  rw [show ad.add 1 = ⟨ad.block, ad.off + 1, none⟩ by simp [Addr.add]] at hc1
  have hg1 : (l.getD 1 0).toNat = l[1].toNat := by rw [List.getD_eq_getElem?_getD, List.getElem?_eq_getElem (by omega)]; rfl
  rw [hg1] at ho
  have hq := l[1].toNat_lt
  generalize l[1].toNat = q at *
  have hi1 : 1 < (l.length : Int) := by omega
  clear hg1 e0 e2 hp
  by_cases e3 : q < 128
  · rw [if_pos e3] at ho
    unfold ffin at ho
    rw [if_neg (by omega)] at ho
    have hb3 : decide ((128 : Int) ≤ (q : Int)) = false := dfalse (by omega)
    have hb3x : decide (128 ≤ q) = false := dfalse (by omega)
    have hb4 : decide ((65536 : Int) < 2 + (q : Int)) = false := dfalse (by omega)
    by_cases e4 : l.length < 2 + q
    · rw [if_pos e4] at ho
      subst ho
      have hb5 : decide ((l.length : Int) < 2 + (q : Int)) = true := dtrue (by omega)
      go_enter Tryz.func16, Tryz.ntmps16
      go_wp2_with fail
      go_ret2
      exact ⟨rfl, rfl⟩
    · rw [if_neg e4] at ho
      subst ho
      have hb5 : decide ((l.length : Int) < 2 + (q : Int)) = false := dfalse (by omega)
      go_enter Tryz.func16, Tryz.ntmps16
      go_wp2_with fail
      go_ret2
      exact ⟨by simp only []; rfl, rfl⟩
  rw [if_neg e3] at ho
  obtain ⟨k, hk⟩ : ∃ k, k = q - 128 := ⟨_, rfl⟩
  rw [← hk] at ho
  have hb3 : decide ((128 : Int) ≤ (q : Int)) = true := dtrue (by omega)
  have hb3x : decide (128 ≤ q) = true := dtrue (by omega)
  have hqk : (q : Int) - 128 = (k : Int) := by omega
  by_cases e4 : k = 0 ∨ 4 < k
  · rw [if_pos e4] at ho
    subst ho
    rcases e4 with e4 | e4
    · have hb5 : ((k : Int) == 0) = true := by rw [e4]; rfl
      have hb5x : decide ((k : Int) < 1) = true := dtrue (by omega)
      have hb5y : decide (k < 1) = true := dtrue (by omega)
      clear hk e3
      go_enter Tryz.func16, Tryz.ntmps16
      go_wp2_with fail
      go_ret2
      exact ⟨rfl, rfl⟩
    · have hb5 : ((k : Int) == 0) = false := by rw [beq_eq_false_iff_ne]; omega
      have hb5x : decide ((k : Int) < 1) = false := dfalse (by omega)
      have hb5y : decide (k < 1) = false := dfalse (by omega)
      have hb6 : decide ((4 : Int) < (k : Int)) = true := dtrue (by omega)
      clear hk e3
      go_enter Tryz.func16, Tryz.ntmps16
      go_wp2_with fail
      go_ret2
      exact ⟨rfl, rfl⟩
  rw [if_neg e4] at ho
  have hk4 : k ≤ 4 := by omega
  have hk1 : 1 ≤ k := by omega
  have hb5 : ((k : Int) == 0) = false := by rw [beq_eq_false_iff_ne]; omega
  have hb5x : decide ((k : Int) < 1) = false := dfalse (by omega)
  have hb5y : decide (k < 1) = false := dfalse (by omega)
  have hb6 : decide ((4 : Int) < (k : Int)) = false := dfalse (by omega)
  have hb6x : decide (4 < k) = false := dfalse (by omega)
  clear hk e3 e4
  by_cases e5 : l.length < 2 + k
  · rw [if_pos e5] at ho
    subst ho
    have hb7 : decide ((l.length : Int) < 2 + (k : Int)) = true := by rw [decide_eq_true_eq]; omega
    go_enter Tryz.func16, Tryz.ntmps16
    go_wp2_with fail
    go_ret2
    exact ⟨rfl, rfl⟩
  rw [if_neg e5] at ho
  have hb7 : decide ((l.length : Int) < 2 + (k : Int)) = false := by rw [decide_eq_false_iff_not]; omega
  have hcl : (l.length : Int) ≤ (c : Int) := by omega
  have hkl : 2 + (k : Int) ≤ (l.length : Int) := by omega
  have hkc : 2 + (k : Int) ≤ (c : Int) := by omega
  obtain ⟨ds, hds⟩ : ∃ ds, ds = (l.drop 2).take k := ⟨_, rfl⟩
  have hdl : ds.length = k := by rw [hds, List.length_take, List.length_drop]; omega
  have hcell : ∀ j, (hj : j < k) → w.cell? ⟨ad.block, ad.off + 2 + j, none⟩ = some (.int .u8 ((ds[j]'(by omega)).toNat : Int)) := fun j hj => by
    obtain ⟨ad9, hA9, hB9, hc9⟩ := h4.byte (k := 2 + j) (by omega)
    injection hA9 with hA9
    subst hA9
    rw [show (⟨ad.block, ad.off + 2 + j, none⟩ : Addr) = ad.add (2 + j) by simp [Addr.add, Nat.add_assoc], hc9]
    congr 3
    simp [hds]
  rw [← hds] at ho
  replace hds := Lib.hid hds
  go_enter Tryz.func16, Tryz.ntmps16
  go_wp2_with fail
  go_loop [4, 46] (fun n i => ∃ j : Nat, j ≤ k ∧ i = .int .i64 j ∧ n = .int .i64 (uval (ds.take j) : Nat)) (fun _ i => k - (intOf i).toNat)
  case atStart => exact ⟨0, Nat.zero_le _, rfl, by simp [uval]⟩
  case round =>
    obtain ⟨j, hj, rfl, rfl⟩ := hrel
    by_cases hlt : j < k
    · have hbl : decide ((j : Int) < (k : Int)) = true := dtrue (by omega)
      have hbn : decide (j < k) = true := dtrue (by omega)
      have hc9 := hcell j hlt
      have hsn : uval (ds.take (j + 1)) = uval (ds.take j) * 256 + ds[j].toNat := by
        rw [List.take_succ_eq_append_getElem (by omega), uval_snoc]
      have hlt2 : uval (ds.take j) < 16777216 := by
        have := uval_lt (ds.take j)
        have h9 : 2 ^ (8 * (ds.take j).length) ≤ 2 ^ (8 * 3) := Nat.pow_le_pow_right (by omega) (by rw [List.length_take]; omega)
        have h10 : (2 : Nat) ^ (8 * 3) = 16777216 := rfl
        omega
      have hb := ds[j].toNat_lt
      replace hsn := Lib.hid hsn
      generalize ds[j].toNat = b at *
      generalize uval (ds.take j) = u at *
      have hor := i64_or_small u b (by omega) (by omega)
      have hj0 : (0 : Int) ≤ 2 + (j : Int) := by omega
      have hj1 : 2 + (j : Int) < (l.length : Int) := by omega
      clear hcell hdl
      go_wp2_with fail
      exact ⟨⟨j + 1, by omega, by go_num, by rw [hsn.out]; go_num⟩, by simp [intOf] <;> omega⟩
    · have hbl : decide ((j : Int) < (k : Int)) = false := dfalse (by omega)
      have hbn : decide (j < k) = false := dfalse (by omega)
      rw [List.take_of_length_le (by omega)]
      have hul := uval_lt ds
      have h9 : 2 ^ (8 * ds.length) ≤ 2 ^ (8 * 4) := Nat.pow_le_pow_right (by omega) (by omega)
      have h10 : (2 : Nat) ^ (8 * 4) = 4294967296 := rfl
      have hu : uval ds < 4294967296 := by omega
      clear hul h9 h10 hcell
      generalize uval ds = u at *
      unfold ffin at ho
      by_cases e6 : 65536 < 2 + k + u
      · rw [if_pos e6] at ho
        subst ho
        have hb8 : decide ((65536 : Int) < 2 + (k : Int) + (u : Int)) = true := dtrue (by omega)
        go_wp2_with fail
        go_ret2
        exact ⟨rfl, rfl⟩
      rw [if_neg e6] at ho
      have hb8 : decide ((65536 : Int) < 2 + (k : Int) + (u : Int)) = false := dfalse (by omega)
      by_cases e7 : l.length < 2 + k + u
      · rw [if_pos e7] at ho
        subst ho
        have hb9 : decide ((l.length : Int) < 2 + (k : Int) + (u : Int)) = true := dtrue (by omega)
        go_wp2_with fail
        go_ret2
        exact ⟨rfl, rfl⟩
      · rw [if_neg e7] at ho
        subst ho
        have hb9 : decide ((l.length : Int) < 2 + (k : Int) + (u : Int)) = false := dfalse (by omega)
        go_wp2_with fail
        go_ret2
        exact ⟨by simp only []; rfl, rfl⟩

set_option maxHeartbeats 4000000 in
theorem rframe_any {w : World} {S : Nat → Prop} {v : Value} {l : List UInt8} (h : Bs w S v l) (hl : l.length ≤ 3000) :
    Calls Tryz.prog 53 #[v] w fun e w' => e = .returned (.tuple #[.int .i64 ((mframe l).1 : Nat), .int .i64 ((mframe l).2 : Nat)]) ∧ w' = w := by
  obtain ⟨o, ho⟩ : ∃ o, o = mframe l := ⟨_, rfl⟩
  rw [← ho]
  unfold mframe at ho
  obtain ⟨A, c, rfl, h1, h2, h3, h4⟩ := h.open_
  by_cases e0 : l.length = 0
  · rw [if_pos e0] at ho
    subst ho
    have hb : ((l.length : Int) == 0) = true := by rw [e0]; rfl
    have hbx : decide ((l.length : Int) < 1) = true := dtrue (by omega)
    have hby : decide (l.length < 1) = true := dtrue (by omega)
    have hbz : (l.length == 0) = true := by rw [beq_iff_eq]; exact e0
    go_enter Tryz.func53, Tryz.ntmps53
    go_wp2_with fail
    go_ret2
    exact ⟨rfl, rfl⟩
  rw [if_neg e0] at ho
  have hb0 : ((l.length : Int) == 0) = false := by rw [beq_eq_false_iff_ne]; omega
  have hb0x : decide ((l.length : Int) < 1) = false := dfalse (by omega)
  have hb0y : decide (l.length < 1) = false := dfalse (by omega)
  obtain ⟨ad, hA, hB, hc0⟩ := h4.byte (k := 0) (by omega)
  subst hA
  rw [show ad.add 0 = ad by simp [Addr.add]] at hc0
  have hg0 : (l.getD 0 0).toNat = l[0].toNat := by rw [List.getD_eq_getElem?_getD, List.getElem?_eq_getElem (by omega)]; rfl
  rw [hg0] at ho
  have hp := l[0].toNat_lt
  clear hg0
  generalize l[0].toNat = p0 at *
  have hi0 : 0 < l.length := by omega
  have hi0x : 0 < (l.length : Int) := by omega
  by_cases e1 : p0 ≠ 48
  · rw [if_pos e1] at ho
    subst ho
    have hb1 : ((p0 : Int) != 48) = true := by rw [bne_iff_ne]; omega
    go_enter Tryz.func53, Tryz.ntmps53
    go_wp2_with fail
    go_ret2
    exact ⟨rfl, rfl⟩
  rw [if_neg e1] at ho
  obtain rfl : p0 = 48 := by omega
  have hb1 : (((48 : Nat) : Int) != 48) = false := rfl
  by_cases e2 : l.length = 1
  · rw [if_pos e2] at ho
    subst ho
    have hb2 : ((l.length : Int) == 1) = true := by rw [e2]; rfl
    have hb2x : decide ((l.length : Int) < 2) = true := dtrue (by omega)
    have hb2y : decide (l.length < 2) = true := dtrue (by omega)
    go_enter Tryz.func53, Tryz.ntmps53
    go_wp2_with fail
    go_ret2
    exact ⟨rfl, rfl⟩
  rw [if_neg e2] at ho
  have hb2 : ((l.length : Int) == 1) = false := by rw [beq_eq_false_iff_ne]; omega
  have hb2x : decide ((l.length : Int) < 2) = false := dfalse (by omega)
  have hb2y : decide (l.length < 2) = false := dfalse (by omega)
  obtain ⟨ad', hA', hB', hc1⟩ := h4.byte (k := 1) (by omega)
  injection hA' with hA'
  subst hA'
  rw [show ad.add 1 = ⟨ad.block, ad.off + 1, none⟩ by simp [Addr.add]] at hc1
  have hg1 : (l.getD 1 0).toNat = l[1].toNat := by rw [List.getD_eq_getElem?_getD, List.getElem?_eq_getElem (by omega)]; rfl
  rw [hg1] at ho
  have hq := l[1].toNat_lt
  generalize l[1].toNat = q at *
  have hi1 : 1 < (l.length : Int) := by omega
  clear hg1 e0 e2 hp
  by_cases e3 : q < 128
  · rw [if_pos e3] at ho
    unfold ffin at ho
    rw [if_neg (by omega)] at ho
    have hb3 : decide ((128 : Int) ≤ (q : Int)) = false := dfalse (by omega)
    have hb3x : decide (128 ≤ q) = false := dfalse (by omega)
    have hb4 : decide ((65536 : Int) < 2 + (q : Int)) = false := dfalse (by omega)
    by_cases e4 : l.length < 2 + q
    · rw [if_pos e4] at ho
      subst ho
      have hb5 : decide ((l.length : Int) < 2 + (q : Int)) = true := dtrue (by omega)
      go_enter Tryz.func53, Tryz.ntmps53
      go_wp2_with fail
      go_ret2
      exact ⟨rfl, rfl⟩
    · rw [if_neg e4] at ho
      subst ho
      have hb5 : decide ((l.length : Int) < 2 + (q : Int)) = false := dfalse (by omega)
      go_enter Tryz.func53, Tryz.ntmps53
      go_wp2_with fail
      go_ret2
      exact ⟨by simp only []; rfl, rfl⟩
  rw [if_neg e3] at ho
  obtain ⟨k, hk⟩ : ∃ k, k = q - 128 := ⟨_, rfl⟩
  rw [← hk] at ho
  have hb3 : decide ((128 : Int) ≤ (q : Int)) = true := dtrue (by omega)
  have hb3x : decide (128 ≤ q) = true := dtrue (by omega)
  have hqk : (q : Int) - 128 = (k : Int) := by omega
  by_cases e4 : k = 0 ∨ 4 < k
  · rw [if_pos e4] at ho
    subst ho
    rcases e4 with e4 | e4
    · have hb5 : ((k : Int) == 0) = true := by rw [e4]; rfl
      have hb5x : decide ((k : Int) < 1) = true := dtrue (by omega)
      have hb5y : decide (k < 1) = true := dtrue (by omega)
      clear hk e3
      go_enter Tryz.func53, Tryz.ntmps53
      go_wp2_with fail
      go_ret2
      exact ⟨rfl, rfl⟩
    · have hb5 : ((k : Int) == 0) = false := by rw [beq_eq_false_iff_ne]; omega
      have hb5x : decide ((k : Int) < 1) = false := dfalse (by omega)
      have hb5y : decide (k < 1) = false := dfalse (by omega)
      have hb6 : decide ((4 : Int) < (k : Int)) = true := dtrue (by omega)
      clear hk e3
      go_enter Tryz.func53, Tryz.ntmps53
      go_wp2_with fail
      go_ret2
      exact ⟨rfl, rfl⟩
  rw [if_neg e4] at ho
  have hk4 : k ≤ 4 := by omega
  have hk1 : 1 ≤ k := by omega
  have hb5 : ((k : Int) == 0) = false := by rw [beq_eq_false_iff_ne]; omega
  have hb5x : decide ((k : Int) < 1) = false := dfalse (by omega)
  have hb5y : decide (k < 1) = false := dfalse (by omega)
  have hb6 : decide ((4 : Int) < (k : Int)) = false := dfalse (by omega)
  have hb6x : decide (4 < k) = false := dfalse (by omega)
  clear hk e3 e4
  by_cases e5 : l.length < 2 + k
  · rw [if_pos e5] at ho
    subst ho
    have hb7 : decide ((l.length : Int) < 2 + (k : Int)) = true := by rw [decide_eq_true_eq]; omega
    go_enter Tryz.func53, Tryz.ntmps53
    go_wp2_with fail
    go_ret2
    exact ⟨rfl, rfl⟩
  rw [if_neg e5] at ho
  have hb7 : decide ((l.length : Int) < 2 + (k : Int)) = false := by rw [decide_eq_false_iff_not]; omega
  have hcl : (l.length : Int) ≤ (c : Int) := by omega
  have hkl : 2 + (k : Int) ≤ (l.length : Int) := by omega
  have hkc : 2 + (k : Int) ≤ (c : Int) := by omega
  obtain ⟨ds, hds⟩ : ∃ ds, ds = (l.drop 2).take k := ⟨_, rfl⟩
  have hdl : ds.length = k := by rw [hds, List.length_take, List.length_drop]; omega
  have hcell : ∀ j, (hj : j < k) → w.cell? (ad.add (2 + j)) = some (.int .u8 ((ds[j]'(by omega)).toNat : Int)) := fun j hj => by
    obtain ⟨ad9, hA9, hB9, hc9⟩ := h4.byte (k := 2 + j) (by omega)
    injection hA9 with hA9
    subst hA9
    rw [hc9]
    congr 3
    simp [hds]
  rw [← hds] at ho
  replace hds := Lib.hid hds
  go_enter Tryz.func53, Tryz.ntmps53
  go_wp2_with fail
  go_loop [4, 7] (fun n i => ∃ j : Nat, j ≤ k ∧ i = .int .i64 j ∧ n = .int .i64 (uval (ds.take j) : Nat)) (fun _ i => k - (intOf i).toNat)
  case atStart => exact ⟨0, Nat.zero_le _, rfl, by simp [uval]⟩
  case round =>
    obtain ⟨j, hj, rfl, rfl⟩ := hrel
    by_cases hlt : j < k
    · have hbl : decide ((j : Int) < (k : Int)) = true := dtrue (by omega)
      have hbn : decide (j < k) = true := dtrue (by omega)
      have hc9 := hcell j hlt
      have hsn : uval (ds.take (j + 1)) = uval (ds.take j) * 256 + ds[j].toNat := by
        rw [List.take_succ_eq_append_getElem (by omega), uval_snoc]
      have hlt2 : uval (ds.take j) < 16777216 := by
        have := uval_lt (ds.take j)
        have h9 : 2 ^ (8 * (ds.take j).length) ≤ 2 ^ (8 * 3) := Nat.pow_le_pow_right (by omega) (by rw [List.length_take]; omega)
        have h10 : (2 : Nat) ^ (8 * 3) = 16777216 := rfl
        omega
      have hb := ds[j].toNat_lt
      replace hsn := Lib.hid hsn
      generalize ds[j].toNat = b at *
      generalize uval (ds.take j) = u at *
      have hor := i64_or_small u b (by omega) (by omega)
      have hj0 : (0 : Int) ≤ 2 + (j : Int) := by omega
      have hj1 : 2 + (j : Int) < (l.length : Int) := by omega
      clear hcell hdl
      go_wp2_with fail
      exact ⟨⟨j + 1, by omega, by go_num, by rw [hsn.out]; go_num⟩, by simp [intOf] <;> omega⟩
    · have hbl : decide ((j : Int) < (k : Int)) = false := dfalse (by omega)
      have hbn : decide (j < k) = false := dfalse (by omega)
      rw [List.take_of_length_le (by omega)]
      have hul := uval_lt ds
      have h9 : 2 ^ (8 * ds.length) ≤ 2 ^ (8 * 4) := Nat.pow_le_pow_right (by omega) (by omega)
      have h10 : (2 : Nat) ^ (8 * 4) = 4294967296 := rfl
      have hu : uval ds < 4294967296 := by omega
      clear hul h9 h10 hcell
      generalize uval ds = u at *
      unfold ffin at ho
      by_cases e6 : 65536 < 2 + k + u
      · rw [if_pos e6] at ho
        subst ho
        have hb8 : decide ((65536 : Int) < 2 + (k : Int) + (u : Int)) = true := dtrue (by omega)
        go_wp2_with fail
        go_ret2
        exact ⟨rfl, rfl⟩
      rw [if_neg e6] at ho
      have hb8 : decide ((65536 : Int) < 2 + (k : Int) + (u : Int)) = false := dfalse (by omega)
      by_cases e7 : l.length < 2 + k + u
      · rw [if_pos e7] at ho
        subst ho
        have hb9 : decide ((l.length : Int) < 2 + (k : Int) + (u : Int)) = true := dtrue (by omega)
        go_wp2_with fail
        go_ret2
        exact ⟨rfl, rfl⟩
      · rw [if_neg e7] at ho
        subst ho
        have hb9 : decide ((l.length : Int) < 2 + (k : Int) + (u : Int)) = false := dfalse (by omega)
        go_wp2_with fail
        go_ret2
        exact ⟨by simp only []; rfl, rfl⟩

end Go.Proofs.YtoockogceobfgaaGreat
namespace Go.Proofs.YtoockogceobfgaaGreat
open Go.RowKit
set_option maxRecDepth 100000

theorem mext_trans {a b c : World} (h : Ext a b) (h' : Ext b c) : Ext a c := h.trans h' (fun _ _ h => h) (fun _ _ h => h)
theorem eq0_any {w : World} : Calls Tryz.prog 108 #[.slice none 0 0, .slice none 0 0] w fun e w' => e = .returned (.bool true) ∧ w' = w := by
  go_enter Tryz.func108, Tryz.ntmps108
  go_wp2_with fail
  go_loopw [13] (fun i wr => i = .int .i64 0 ∧ wr = w) (fun _ _ => 0)
  case atStart => exact ⟨rfl, rfl⟩
  case round =>
    obtain ⟨rfl, rfl⟩ := hrel
    go_wp2_with fail
    go_ret
    exact ⟨rfl, rfl⟩
theorem eqM0_any {w : World} {f : Value} : Calls Tryz.prog 111 #[.slice none 0 0, .slice none 0 0, f] w fun e w' => e = .returned (.bool true) ∧ w' = w := by
  go_enter Tryz.func111, Tryz.ntmps111
  go_wp2_with fail
  go_loopw [17] (fun i wr => i = .int .i64 0 ∧ wr = w) (fun _ _ => 0)
  case atStart => exact ⟨rfl, rfl⟩
  case round =>
    obtain ⟨rfl, rfl⟩ := hrel
    go_wp2_with fail
    go_ret
    exact ⟨rfl, rfl⟩
theorem eqT0_any {w : World} {f : Value} : Calls Tryz.prog 134 #[.slice none 0 0, .slice none 0 0, f] w fun e w' => e = .returned (.bool true) ∧ w' = w := by
  go_enter Tryz.func134, Tryz.ntmps134
  go_wp2_with fail
  go_loopw [17] (fun i wr => i = .int .i64 0 ∧ wr = w) (fun _ _ => 0)
  case atStart => exact ⟨rfl, rfl⟩
  case round =>
    obtain ⟨rfl, rfl⟩ := hrel
    go_wp2_with fail
    go_ret
    exact ⟨rfl, rfl⟩
theorem eqF0_any {w : World} {f : Value} : Calls Tryz.prog 136 #[.slice none 0 0, .slice none 0 0, f] w fun e w' => e = .returned (.bool true) ∧ w' = w := by
  go_enter Tryz.func136, Tryz.ntmps136
  go_wp2_with fail
  go_loopw [17] (fun i wr => i = .int .i64 0 ∧ wr = w) (fun _ _ => 0)
  case atStart => exact ⟨rfl, rfl⟩
  case round =>
    obtain ⟨rfl, rfl⟩ := hrel
    go_wp2_with fail
    go_ret
    exact ⟨rfl, rfl⟩
theorem sameAt0_any {w : World} : Calls Tryz.prog 109 #[.slice none 0 0, .slice none 0 0] w fun e w' => e = .returned (.bool true) ∧ w' = w := by
  go_enter Tryz.func109, Tryz.ntmps109
  go_wp2_with fail
  refine eqT0_any.mono ?_
  rintro e w1 ⟨rfl, rfl⟩
  go_wp2_with fail
  go_ret
  exact ⟨rfl, rfl⟩
theorem sameF0_any {w : World} : Calls Tryz.prog 110 #[.agg #[.int .i64 0, .string ⟨#[]⟩, .string ⟨#[]⟩, .slice none 0 0, .slice none 0 0], .agg #[.int .i64 0, .string ⟨#[]⟩, .string ⟨#[]⟩, .slice none 0 0, .slice none 0 0]] w fun e w' => e = .returned (.bool true) ∧ Ext w w' := by
  go_enter Tryz.func110, Tryz.ntmps110
  go_wp2_with fail
  refine eq0_any.mono ?_
  rintro e w1 ⟨rfl, rfl⟩
  go_wp2_with fail
  refine eqF0_any.mono ?_
  rintro e w1 ⟨rfl, rfl⟩
  go_wp2_with fail
  go_ret
  exact ⟨rfl, ((Mod.refl _ w).alloc _).alloc _⟩
theorem isNum1_any {w : World} : Calls Tryz.prog 75 #[.int .i64 1] w fun e w' => e = .returned (.bool true) ∧ w' = w := by
  go_enter Tryz.func75, Tryz.ntmps75
  go_wp2_with fail
  go_ret
  exact ⟨rfl, rfl⟩
theorem opTag2_any {w : World} : Calls Tryz.prog 57 #[.int .i64 2] w fun e w' => e = .returned (.int .u8 66) ∧ w' = w := by
  go_enter Tryz.func57, Tryz.ntmps57
  go_wp2_with fail
  go_ret
  exact ⟨rfl, rfl⟩
end Go.Proofs.YtoockogceobfgaaGreat
namespace Go.Proofs.YtoockogceobfgaaGreat
open Go.RowKit
set_option maxRecDepth 100000

section
variable {P : Program} {w : World} {src dst e : TypeId} {ops : Array Oper} {rest : List Oper} {o : Oper} {a : Act} {Q : Exit → Act → World → Prop}
theorem run_tob (hs : P.underlying src = some .string) (hd : P.underlying dst = some (.slice e)) (he : P.underlying e = some (.int .u8)) (l : List UInt8) (hm : l.length ≤ maxLen) :
    ∃ c w', (convert src dst (sv l)).run P w = .ok (.slice (some ⟨w.heap.size, 0, none⟩) l.length c) w' ∧ Bs w' (fun k => k = w.heap.size) (.slice (some ⟨w.heap.size, 0, none⟩) l.length c) l ∧ Ext w w' ∧ w'.heap.size = w.heap.size + 1 := by
  have hsz : (⟨l.toArray⟩ : ByteArray).size = l.length := by
    show l.toArray.size = l.length
    simp
  have hrun := run_bytes_of_string (P := P) w src dst e ⟨l.toArray⟩ hs hd he
  have hge := grownCap_ge w (⟨l.toArray⟩ : ByteArray).size 0 e
  have hle := grownCap_le_maxLen w (⟨l.toArray⟩ : ByteArray).size 0 e (by rw [hsz]; exact hm)
  rw [hsz] at hrun hge hle
  generalize grownCap w l.length 0 e = c at *
  obtain ⟨fr, hfr⟩ : ∃ fr, fr = ((bytesRow ⟨l.toArray⟩ c).size, (bytesRow ⟨l.toArray⟩ c).size + 1) := ⟨_, rfl⟩
  rw [← hfr] at hrun
  refine ⟨c, _, hrun, ⟨some ⟨w.heap.size, 0, none⟩, c, by simp, by simpa using hge, hle, by simp, fun j u hu => ⟨_, rfl, rfl, ?_⟩⟩, ((Mod.refl _ w).drew).alloc _, by simp⟩
  rw [add_lit, cell_of_row (w.drew.alloc (.cells (bytesRow ⟨l.toArray⟩ c) e fr)) w.heap.size j _ e fr (heap_alloc_new w.drew _)]
  have hj : j < l.length := by
    have := (List.getElem?_eq_some_iff.1 hu).1
    simpa using this
  have hu2 : u = bv l[j] := by
    rw [List.getElem?_map, List.getElem?_eq_getElem hj] at hu
    exact (Option.some.inj hu).symm
  rw [hu2]
  simp [bytesRow, Array.getElem?_append, hj]
/-- []byte(s). -/
theorem wp_tob (hs : P.underlying src = some .string) (hd : P.underlying dst = some (.slice e)) (he : P.underlying e = some (.int .u8)) {l : List UInt8} (hm : l.length ≤ 1000000000)
    (hgd : o.guard = none) (s : Operand) (ho : o.op = .convert src dst s) (hv : a.eval s = sv l)
    (h : ∀ c w', Bs w' (fun k => k = w.heap.size) (.slice (some ⟨w.heap.size, 0, none⟩) l.length c) l → Ext w w' → w'.heap.size = w.heap.size + 1 → wpList P ops Q rest (a.put o.dst (.slice (some ⟨w.heap.size, 0, none⟩) l.length c)) w') : wpList P ops Q (o :: rest) a w := by
  refine wpList_plain hgd fun K hK => ?_
  obtain ⟨c, w', hrun, h2, h3, h4⟩ := run_tob (P := P) (w := w) hs hd he l (by simp only [maxLen]; omega)
  unfold Oper.wp execOp
  simp only [ho, hv, Sem.run_bind, Sem.run_pure, Result.andThen_ok, hrun]
  exact hK _ _ (h c w' h2 h3 h4)
end
end Go.Proofs.YtoockogceobfgaaGreat
namespace Go.Proofs.YtoockogceobfgaaGreat
open Go.RowKit
set_option maxRecDepth 100000

/-- Rows of a call's own, each in blocks of its own. -/
structure Orw (w : World) (B : Nat) (v : Value) (vs : List Value) (L : List (List UInt8)) : Prop where
  own : Own w 22 v vs
  fresh : Fresh B v
  len : vs.length = L.length
  els : ∀ (k : Nat) (x : Value) (l : List UInt8), vs[k]? = some x → L[k]? = some l → Own w 5 x (l.map bv) ∧ Fresh B x
section
variable {w w' : World} {B : Nat} {v v' x : Value} {vs : List Value} {L : List (List UInt8)} {l : List UInt8}
theorem Orw.nil (w : World) (B : Nat) : Orw w B (.slice none 0 0) [] [] := ⟨Own.nil _ _, fresh_nil _ _ _, rfl, fun k x l h => by simp at h⟩
theorem Orw.ext (h : Orw w B v vs L) (hm : Ext w w') : Orw w' B v vs L :=
  ⟨h.own.mod hm (fun _ _ h => h), h.fresh, h.len, fun k x l h1 h2 => ⟨(h.els k x l h1 h2).1.mod hm (fun _ _ h => h), (h.els k x l h1 h2).2⟩⟩
theorem Orw.snoc (h : Orw w B v vs L) (h1 : Own w' 22 v' (vs ++ [x])) (h2 : Mod (Go.Proofs.YtoockogceobfgaaGreat.own v) w w') (h3 : Next w.heap.size v v') (hx : Own w 5 x (l.map bv)) (hf : Fresh B x) (hB : B ≤ w.heap.size) : Orw w' B v' (vs ++ [x]) (L ++ [l]) := by
  have ne : ∀ {y : Value} {m : List UInt8}, Own w 5 y (m.map bv) → Own w' 5 y (m.map bv) := fun hy =>
    hy.mod h2 (fun k hk hv => own_ne h.own hy (by decide) hv hk)
  refine ⟨h1, h3.fresh h.fresh hB, by rw [List.length_append, List.length_append, h.len]; rfl, fun k y m hy hm => ?_⟩
  by_cases hk : k < vs.length
  · rw [List.getElem?_append_left hk] at hy
    rw [List.getElem?_append_left (by rw [← h.len]; exact hk)] at hm
    exact ⟨ne (h.els k y m hy hm).1, (h.els k y m hy hm).2⟩
  · rw [List.getElem?_append_right (by omega)] at hy
    rw [List.getElem?_append_right (by rw [← h.len]; omega), ← h.len] at hm
    have hk0 : k - vs.length = 0 := by
      rcases Nat.eq_zero_or_pos (k - vs.length) with h0 | h0
      · exact h0
      · rw [List.getElem?_eq_none (by simp only [List.length_singleton]; omega)] at hy; cases hy
    rw [hk0] at hy hm
    simp only [List.getElem?_cons_zero, Option.some.injEq] at hy hm
    subst hy; subst hm
    exact ⟨ne hx, hf⟩
theorem Orw.rw (h : Orw w B v vs L) : Rw w (fun _ => True) v L :=
  ⟨vs, h.len, h.own.sl.mono (fun _ _ _ => trivial), fun k x l h1 h2 => (h.els k x l h1 h2).1.sl.mono (fun _ _ _ => trivial)⟩
end
theorem fresh_le {B B' : Nat} {v : Value} (h : Fresh B v) (hB : B' ≤ B) : Fresh B' v := fun k hk => Nat.le_trans hB (h k hk)
theorem one_flat (l : List UInt8) : [l].flatten = l := by simp
theorem iB_len (n : Int) : (iB n).length ≤ 8 := by
  rw [bes_len]
  exact (isw_kI n).2.1
theorem fmB_snoc {α β : Type} (f : α → List β) (L : List α) {k : Nat} (h : k < L.length) : (L.take (k + 1)).flatMap f = (L.take k).flatMap f ++ f L[k] := by
  rw [List.take_succ_eq_append_getElem h, List.flatMap_append]
  simp
theorem fmB_take {α β : Type} (f : α → List β) (L : List α) (k : Nat) : ((L.take k).flatMap f).length ≤ (L.flatMap f).length := by
  have : L.flatMap f = (L.take k).flatMap f ++ (L.drop k).flatMap f := by rw [← List.flatMap_append, List.take_append_drop]
  rw [this, List.length_append]; omega
theorem flat_map {α : Type} (f : α → List UInt8) (L : List α) : (L.map f).flatten = L.flatMap f := by rw [List.flatMap_def]

set_option maxHeartbeats 4000000 in
theorem num_any {w : World} (t : UInt8) (n : Int) (h0 : -9223372036854775808 ≤ n) (h1 : n ≤ 9223372036854775807) :
    Calls Tryz.prog 79 #[.int .u8 t.toNat, .int .i64 n] w fun e w' => ∃ v', e = .returned v' ∧ Own w' 5 v' ((nuB t n).map bv) ∧ Fresh w.heap.size v' ∧ Ext w w' := by
  have hil := iB_len n
  obtain ⟨Z, hZ⟩ : ∃ Z, Z = nuB t n := ⟨_, rfl⟩
  rw [← hZ]
  replace hZ := Lib.hid (show Z = tlv t (iB n) from hZ)
  go_enter Tryz.func79, Tryz.ntmps79
  go_wp2_with fail
  refine (int_any (w := w) n h0 h1).mono ?_
  rintro e w1 ⟨k, v1, rfl, hk, g1, g2, g3⟩
  rw [isw_iB hk] at g1
  generalize iB n = B at *
  obtain ⟨A1, c1, hv1⟩ := g1.shape
  rw [List.length_map] at hv1
  subst hv1
  have hr := Rw.one 22 g1.sl
  have hx2 := fun cs => mext_trans g3 ((Mod.refl (fun _ => False) w1).alloc (.cells cs 22))
  clear hk
  go_wp2_with fail
  refine (tag_any t hr (by rw [one_flat]; omega)).mono ?_
  rintro e w2 ⟨v2, rfl, m1, m2, m3⟩
  rw [one_flat] at m1
  go_wp2_with fail
  go_ret
  exact ⟨_, rfl, by rw [hZ.out]; exact m1, fresh_le m2 (hx2 _).size, mext_trans (hx2 _) m3⟩

set_option maxHeartbeats 4000000 in
theorem mtext_any {w : World} (t : UInt8) (l : List UInt8) (hl : l.length ≤ 65536) :
    Calls Tryz.prog 114 #[.int .u8 t.toNat, sv l] w fun e w' => ∃ v', e = .returned v' ∧ Own w' 5 v' ((tlv t l).map bv) ∧ Fresh w.heap.size v' ∧ Ext w w' := by
  go_enter Tryz.func114, Tryz.ntmps114
  go_wp2_with ((with_reducible show wpList _ _ _ (⟨some 7, _, _, _, _, _⟩ :: _) _ _); refine wp_tob Tryz.underlying9 Tryz.underlying22 Tryz.underlying5 (l := l) (by omega) rfl (.tmp 6) rfl rfl ?_; intro cp w1 k1 k2 k3; clear k3)
  have hr := Rw.one 22 k1
  have hx2 := mext_trans k2 ((Mod.refl (fun _ => False) w1).alloc (.cells #[.slice (some ⟨w.heap.size, 0, none⟩) l.length cp] 22))
  refine (tag_any t hr (by rw [one_flat]; exact hl)).mono ?_
  rintro e w2 ⟨v2, rfl, m1, m2, m3⟩
  rw [one_flat] at m1
  go_wp2_with fail
  go_ret
  exact ⟨_, rfl, m1, fresh_le m2 hx2.size, mext_trans hx2 m3⟩

set_option maxHeartbeats 8000000 in
theorem mtexts_any {w : World} {S : Nat → Prop} {v : Value} {L : List (List UInt8)} (t : UInt8) (h : Ss w S v L) (hl : (L.flatMap txB).length ≤ 65536) :
    Calls Tryz.prog 118 #[.int .u8 t.toNat, v] w fun e w' => ∃ v', e = .returned v' ∧ Own w' 5 v' ((txsB t L).map bv) ∧ Fresh w.heap.size v' ∧ Ext w w' := by
  obtain ⟨A, c, rfl, -, -, -, h4⟩ := h.open_
  have hsn := fun k h => @fmB_snoc (List UInt8) UInt8 txB L k h
  have htk := fun k => @fmB_take (List UInt8) UInt8 txB L k
  have hLl : L.length * 2 ≤ 65536 := by
    have : ∀ M : List (List UInt8), M.length * 2 ≤ (M.flatMap txB).length := by
      intro M
      induction M with
      | nil => simp
      | cons a M ih =>
        have := (lay_len a.length).1
        rw [List.flatMap_cons, List.length_append, List.length_cons]
        simp only [txB, tlv, List.length_append, List.length_cons]
        omega
    have := this L
    omega
  obtain ⟨n, hn⟩ : ∃ n, n = L.length := ⟨_, rfl⟩
  rw [← hn] at hLl ⊢
  replace hn := Lib.hid hn
  have hcv : ∀ {wx : World} (j : Nat) (hj : j < L.length), Ext w wx → ∃ ad, A = some ad ∧ wx.cell? (ad.add j) = some (sv L[j]) := fun j hj x => by
    obtain ⟨ad, h1, h2, h3⟩ := h4.at_ hj
    exact ⟨ad, h1, ext_cell x h3⟩
  go_enter Tryz.func118, Tryz.ntmps118
  go_wp2_with fail
  go_loopw [5, 10] (fun v i wr => ∃ (vs : List Value) (k : Nat), i = .int .i64 k ∧ k ≤ n ∧ Orw wr w.heap.size v vs ((L.take k).map txB) ∧ Ext w wr) (fun _ i _ => n - (intOf i).toNat)
  case atStart => exact ⟨[], 0, rfl, Nat.zero_le _, Orw.nil _ _, Mod.refl _ _⟩
  case round =>
    obtain ⟨vs, k, rfl, hk, ho, hx⟩ := hrel
    have hnn := hn.out
    by_cases hlt : k < n
    · have hb : decide ((k : Int) < (n : Int)) = true := dtrue (by omega)
      obtain ⟨ad, hA, cv⟩ := hcv k (by omega) hx
      subst hA
      have h1 := hsn k (by omega)
      have h2 := htk (k + 1)
      have hmp : (L.take (k + 1)).map txB = (L.take k).map txB ++ [txB (L[k]'(by omega))] := by
        rw [List.take_succ_eq_append_getElem (by omega), List.map_append]; rfl
      rw [h1] at h2
      generalize L[k]'(by omega) = x at *
      have hxl : x.length ≤ 65536 := by
        rw [List.length_append] at h2
        simp only [txB, tlv, List.length_append, List.length_cons] at h2
        omega
      have hk0 : (0 : Int) ≤ (k : Int) := by omega
      have hk1 : (k : Int) < (n : Int) := by omega
      have hvl : vs.length = k := by rw [ho.len, List.length_map, List.length_take]; omega
      obtain ⟨M, hM⟩ : ∃ M, M = (L.take k).map txB := ⟨_, rfl⟩
      rw [← hM] at ho hmp
      have hvl2 := Lib.hid hvl
      have hmp2 := Lib.hid hmp
      clear h1 h2 hmp hvl hM hnn hsn htk hcv
      go_wp2_with fail
      refine (mtext_any 4 x hxl).mono ?_
      rintro e w1 ⟨v1, rfl, m1, m2, m3⟩
      change Own w1 _ v1 ((txB x).map bv) at m1
      generalize txB x = X at *
      obtain ⟨A1, c1, e1⟩ := m1.shape
      rw [List.length_map] at e1
      subst e1
      have ho1 := ho.ext m3
      have hx1 := ext_trans hx m3
      have hsz := hx1.size
      have ho2 := ho1.ext ((Mod.refl (fun _ => False) w1).alloc (.cells #[.slice A1 X.length c1] 22))
      have hx2 := ext_trans hx1 ((Mod.refl (fun _ => False) w1).alloc (.cells #[.slice A1 X.length c1] 22))
      have m4 := m1.alloc (.cells #[.slice A1 X.length c1] 22)
      have hsl := Sl.one w1 22 (.slice A1 X.length c1)
      have m5 := fresh_le m2 hx.size
      go_wp2_with ((with_reducible show wpList _ _ _ (⟨some 18, _, _, _, _, _⟩ :: _) _ _); refine wp_app tyR ho2.own hsl (one_ok _ rfl) rfl (.tmp 14) (.tmp 17) rfl rfl rfl (by have := hvl2.out; simp only [List.length_singleton]; omega) ?_; intro v4 w4 q1 q2 q3)
      have ho3 := ho2.snoc q1 q2 q3 m4 m5 hx2.size
      rw [← hmp2.out] at ho3
      have hx4 : Ext w w4 := hx2.trans q2 (fun _ _ h => h) (fun b hb h => by have := ho2.fresh b h; omega)
      exact ⟨⟨_, k + 1, by go_num, by omega, ho3, hx4⟩, by simp [intOf] <;> omega⟩
    · have hb : decide ((k : Int) < (n : Int)) = false := dfalse (by omega)
      have hkn : k = n := by omega
      subst hkn
      have hr := ho.rw
      rw [hnn, List.take_length, ] at hr
      clear hsn htk hcv hnn
      go_wp2_with fail
      refine (tag_any t hr (by rw [flat_map]; exact hl)).mono ?_
      rintro e w2 ⟨v2, rfl, m1, m2, m3⟩
      rw [flat_map] at m1
      go_wp2_with fail
      go_ret
      exact ⟨_, rfl, m1, fresh_le m2 hx.size, ext_trans hx m3⟩

set_option maxHeartbeats 4000000 in
theorem mattr_any {w : World} {S : Nat → Prop} {v : Value} {typ : List UInt8} {L : List (List UInt8)} (h : Ss w S v L) (hl : (atB typ L).length ≤ 65536) :
    Calls Tryz.prog 119 #[sv typ, v] w fun e w' => ∃ v', e = .returned v' ∧ Own w' 5 v' ((atB typ L).map bv) ∧ Fresh w.heap.size v' ∧ Ext w w' := by
  have hl' := hl
  simp only [atB, txB, txsB, tlv, List.length_append, List.length_cons] at hl'
  obtain ⟨A, c, hv, -, -, -, -⟩ := h.open_
  subst hv
  obtain ⟨Z, hZ⟩ : ∃ Z, Z = atB typ L := ⟨_, rfl⟩
  rw [← hZ] at hl ⊢
  replace hZ := Lib.hid (show Z = tlv 48 (txB typ ++ txsB 49 L) from hZ)
  go_enter Tryz.func119, Tryz.ntmps119
  go_wp2_with fail
  refine (mtext_any 4 typ (by omega)).mono ?_
  rintro e w1 ⟨v1, rfl, m1, m2, m3⟩
  go_wp2_with fail
  refine (mtexts_any 49 (Sl.mod h m3 (fun _ _ _ h => h)) (by omega)).mono ?_
  rintro e w2 ⟨v2, rfl, k1, k2, k3⟩
  rw [hZ.out] at hl
  clear hl'
  change Own w1 _ v1 ((txB typ).map bv) at m1
  generalize txB typ = X at *
  generalize txsB 49 L = Y at *
  have hl' : X.length + Y.length ≤ 65536 := by
    simp only [tlv, List.length_append, List.length_cons] at hl
    omega
  clear hl
  have hr := Rw.two 22 (m1.mod k3 (fun _ _ h => h)).sl k1.sl
  have hx2 := mext_trans (mext_trans m3 k3) ((Mod.refl (fun _ => False) w2).alloc (.cells #[v1, v2] 22))
  obtain ⟨A1, c1, e1⟩ := m1.shape
  obtain ⟨A2, c2, e2⟩ := k1.shape
  rw [List.length_map] at e1 e2
  subst e1 e2
  have hfl : [X, Y].flatten = X ++ Y := by simp
  go_wp2_with fail
  refine (tag_any 48 hr (by rw [hfl, List.length_append]; exact hl')).mono ?_
  rintro e w3 ⟨v3, rfl, q1, q2, q3⟩
  rw [hfl] at q1
  go_wp2_with fail
  go_ret
  exact ⟨_, rfl, by rw [hZ.out]; exact q1, fresh_le q2 hx2.size, mext_trans hx2 q3⟩
end Go.Proofs.YtoockogceobfgaaGreat
namespace Go.Proofs.YtoockogceobfgaaGreat
open Go.RowKit
set_option maxRecDepth 100000

abbrev aB (a : Att) : List UInt8 := atB a.typ a.vals
theorem aB_pos (a : Att) : 2 ≤ (aB a).length := by
  have := (lay_len (txB a.typ ++ txsB 49 a.vals).length).1
  simp only [aB, atB, tlv, List.length_append, List.length_cons] at *
  omega
theorem fm_ge {α : Type} (f : α → List UInt8) (h : ∀ a, 2 ≤ (f a).length) : ∀ L : List α, L.length * 2 ≤ (L.flatMap f).length
  | [] => by simp
  | a :: L => by
    have h1 := h a
    have h2 := fm_ge f h L
    rw [List.flatMap_cons, List.length_append, List.length_cons]
    omega

set_option maxHeartbeats 8000000 in
theorem mattrs_any {w : World} {v : Value} {L : List Att} (h : Ats w v L) (hl : (L.flatMap aB).length ≤ 65536) :
    Calls Tryz.prog 120 #[v] w fun e w' => ∃ v', e = .returned v' ∧ Own w' 5 v' ((atsB L).map bv) ∧ Fresh w.heap.size v' ∧ Ext w w' := by
  have hax := fun {wx : World} (x : Ext w wx) => (h.ext x).open_
  obtain ⟨A, c, rfl, -⟩ := h.open_
  have hsn := fun k h => @fmB_snoc Att UInt8 aB L k h
  have htk := fun k => @fmB_take Att UInt8 aB L k
  have hLl := fm_ge aB aB_pos L
  have hLl : L.length * 2 ≤ 65536 := by omega
  obtain ⟨Z, hZ⟩ : ∃ Z, Z = atsB L := ⟨_, rfl⟩
  rw [← hZ]
  replace hZ := Lib.hid (show Z = tlv 48 (L.flatMap aB) from hZ)
  obtain ⟨n, hn⟩ : ∃ n, n = L.length := ⟨_, rfl⟩
  rw [← hn] at hLl ⊢
  replace hn := Lib.hid hn
  clear h
  go_enter Tryz.func120, Tryz.ntmps120
  go_wp2_with fail
  go_loopw [3, 8] (fun v i wr => ∃ (vs : List Value) (k : Nat), i = .int .i64 k ∧ k ≤ n ∧ Orw wr w.heap.size v vs ((L.take k).map aB) ∧ Ext w wr) (fun _ i _ => n - (intOf i).toNat)
  case atStart => exact ⟨[], 0, rfl, Nat.zero_le _, Orw.nil _ _, Mod.refl _ _⟩
  case round =>
    obtain ⟨vs, k, rfl, hk, ho, hx⟩ := hrel
    have hnn := hn.out
    by_cases hlt : k < n
    · have hb : decide ((k : Int) < (n : Int)) = true := dtrue (by omega)
      obtain ⟨A', c', hv, hat⟩ := hax hx
      obtain ⟨ad, y, hA, c0', c1', hy⟩ := hat k (by omega)
      injection hv with hv1 hv2 hv3
      subst hv1
      subst hv3
      subst hA
      clear hv2 hat
      have h1 := hsn k (by omega)
      have h2 := htk (k + 1)
      have hmp : (L.take (k + 1)).map aB = (L.take k).map aB ++ [aB (L[k]'(by omega))] := by
        rw [List.take_succ_eq_append_getElem (by omega), List.map_append]; rfl
      rw [h1] at h2
      generalize L[k]'(by omega) = a at *
      have hal : (atB a.typ a.vals).length ≤ 65536 := by
        rw [List.length_append] at h2
        have h3 : (aB a).length ≤ 65536 := by omega
        exact h3
      have hk0 : (0 : Int) ≤ (k : Int) := by omega
      have hk1 : (k : Int) < (n : Int) := by omega
      have hvl : vs.length = k := by rw [ho.len, List.length_map, List.length_take]; omega
      obtain ⟨M, hM⟩ : ∃ M, M = (L.take k).map aB := ⟨_, rfl⟩
      rw [← hM] at ho hmp
      have hvl2 := Lib.hid hvl
      have hmp2 := Lib.hid hmp
      obtain ⟨Ay, cy, rfl, -, -, -, -⟩ := hy.open_
      clear h1 h2 hmp hvl hM hnn hsn htk hax
      go_wp2_with fail
      refine (mattr_any (Sl.mod hy ((Mod.refl (fun _ => False) _).alloc _) (fun _ _ _ h => h)) hal).mono ?_
      rintro e w1 ⟨v1, rfl, m1, m2, m3⟩
      have hx0 := ext_trans hx ((Mod.refl (fun _ => False) _).alloc (.cells #[sv a.typ, .slice Ay a.vals.length cy] 88))
      change Own w1 _ v1 ((aB a).map bv) at m1
      generalize aB a = X at *
      obtain ⟨A1, c1, e1⟩ := m1.shape
      rw [List.length_map] at e1
      subst e1
      have hx1 := ext_trans hx0 m3
      have ho1 := ho.ext (ext_trans ((Mod.refl (fun _ => False) _).alloc (.cells #[sv a.typ, .slice Ay a.vals.length cy] 88)) m3)
      have ho2 := ho1.ext ((Mod.refl (fun _ => False) w1).alloc (.cells #[.slice A1 X.length c1] 22))
      have hx2 := ext_trans hx1 ((Mod.refl (fun _ => False) w1).alloc (.cells #[.slice A1 X.length c1] 22))
      have m4 := m1.alloc (.cells #[.slice A1 X.length c1] 22)
      have hsl := Sl.one w1 22 (.slice A1 X.length c1)
      have m5 := fresh_le m2 hx0.size
      go_wp2_with ((with_reducible show wpList _ _ _ (⟨some 19, _, _, _, _, _⟩ :: _) _ _); refine wp_app tyR ho2.own hsl (one_ok _ rfl) rfl (.tmp 12) (.tmp 18) rfl rfl rfl (by have := hvl2.out; simp only [List.length_singleton]; omega) ?_; intro v4 w4 q1 q2 q3)
      have ho3 := ho2.snoc q1 q2 q3 m4 m5 hx2.size
      rw [← hmp2.out] at ho3
      have hx4 : Ext w w4 := hx2.trans q2 (fun _ _ h => h) (fun b hb h => by have := ho2.fresh b h; omega)
      exact ⟨⟨_, k + 1, by go_num, by omega, ho3, hx4⟩, by simp [intOf] <;> omega⟩
    · have hb : decide ((k : Int) < (n : Int)) = false := dfalse (by omega)
      have hkn : k = n := by omega
      subst hkn
      have hr := ho.rw
      rw [hnn, List.take_length] at hr
      clear hsn htk hax hnn
      go_wp2_with fail
      refine (tag_any 48 hr (by rw [flat_map]; exact hl)).mono ?_
      rintro e w2 ⟨v2, rfl, m1, m2, m3⟩
      rw [flat_map] at m1
      go_wp2_with fail
      go_ret
      exact ⟨_, rfl, by rw [hZ.out]; exact m1, fresh_le m2 hx.size, ext_trans hx m3⟩
end Go.Proofs.YtoockogceobfgaaGreat
namespace Go.Proofs.YtoockogceobfgaaGreat
open Go.RowKit
set_option maxRecDepth 100000

def growL_ren : Go.Shelf.Ren := ⟨fun | 4 => 144 | n => n, fun | 22 => 22 | 25 => 5 | 3 => 3 | 4 => 4 | 9 => 9 | 20 => 20 | 0 => 0 | n => n, fun | n => n⟩
theorem growL : Go.Proofs.Lays8.n4 Tryz.prog growL_ren := {
  mixed := by kernel_rfl
  f4 := ⟨Tryz.f144.name, by decide, Tryz.func144.trans (congrArg some (by kernel_rfl))⟩
  t0 := Tryz.underlying0
  a0 := Tryz.isAgg0
  z0 := Tryz.sizeOf0
  v0 := Tryz.zeroValue0
  t3 := Tryz.underlying3
  a3 := Tryz.isAgg3
  z3 := Tryz.sizeOf3
  v3 := Tryz.zeroValue3
  t4 := Tryz.underlying4
  a4 := Tryz.isAgg4
  z4 := Tryz.sizeOf4
  v4 := Tryz.zeroValue4
  t9 := Tryz.underlying9
  a9 := Tryz.isAgg9
  z9 := Tryz.sizeOf9
  v9 := Tryz.zeroValue9
  t20 := Tryz.underlying20
  a20 := Tryz.isAgg20
  z20 := Tryz.sizeOf20
  v20 := Tryz.zeroValue20
  t22 := Tryz.underlying22
  a22 := Tryz.isAgg22
  z22 := Tryz.sizeOf22
  v22 := Tryz.zeroValue22 }

theorem grow_any {w : World} {n : Nat} (h0 : 0 < n) (hn : n ≤ 1000000) :
    Calls Tryz.prog 144 #[.slice none 0 0, .int .i64 n] w fun e w' => ∃ v', e = .returned v' ∧ Own w' 5 v' ([] : List Value) ∧ Fresh w.heap.size v' ∧ Ext w w' := by
  obtain ⟨i, hi, hz0, hz1, hz2⟩ := info_parts (tyB).hi
  have h := Any8.slices_Grow_grow growL i (.int .u8 0) hi hz0 (by omega) none 0 0 n [] w (Nat.le_refl _) (by omega) (by rw [hz2]; omega) (by omega) (by simp) (fun _ => rfl) (fun a h => by cases h)
  refine Calls.mono h ?_
  rintro e w' ⟨rfl, rfl⟩
  have hge := grownCap_ge w (0 + n) 0 (growL_ren.t 25)
  have hle := grownCap_le_maxLen w (0 + n) 0 (growL_ren.t 25) (by simp only [maxLen]; omega)
  generalize grownCap w (0 + n) 0 (growL_ren.t 25) = G at *
  obtain ⟨arr, ha⟩ : ∃ a, a = (([] : List Value).toArray ++ Builtin.zeroCells (Value.int IntKind.u8 0).cells (0 + n - 0) ++ Builtin.zeroCells (Value.int IntKind.u8 0).cells (G - (0 + n))) := ⟨_, rfl⟩
  have hs : arr.size = G := by
    rw [ha]
    simp only [Array.size_append, size_zeroCells, Value.cells]
    simp
    omega
  rw [← ha]
  have h1 := Own.lit w.drew 5 arr.toList (by rw [Array.length_toList, hs]; exact hle)
  have h2 := h1.begin (m := 0) (Nat.zero_le _)
  rw [Array.length_toList, hs] at h2
  exact ⟨_, rfl, h2, fun k hk => by have : w.heap.size = k := Option.some.inj hk; omega, (Mod.refl _ w).drew.alloc _⟩

set_option maxHeartbeats 4000000 in
theorem concat_any {w : World} {S : Nat → Prop} {y : Value} {L : List (List UInt8)} (hy : Rw w S y L) (hp : 0 < L.flatten.length) (hl : L.flatten.length ≤ 65536) :
    Calls Tryz.prog 137 #[y] w fun e w' => ∃ v', e = .returned v' ∧ Own w' 5 v' (L.flatten.map bv) ∧ Fresh w.heap.size v' ∧ Ext w w' := by
  obtain ⟨A, c, vs, rfl, h1, h2, h3, h4, h5, h6⟩ := hy.open_
  go_enter Tryz.func137, Tryz.ntmps137
  go_wp2_with fail
  go_loop [3, 11] (fun n i => ∃ k : Nat, k ≤ L.length ∧ i = .int .i64 k ∧ n = .int .i64 (flen L k : Nat)) (fun _ i => L.length - (intOf i).toNat)
  case atStart => exact ⟨0, Nat.zero_le _, rfl, by simp [flen]⟩
  case round =>
    obtain ⟨k, hk, rfl, rfl⟩ := hrel
    by_cases hlt : k < L.length
    · obtain ⟨ad, x, rfl, hs, hc, hbs⟩ := row_at h4 h5 h6 hlt
      obtain ⟨A2, c2, rfl, k1, k2, k3, k4⟩ := hbs.open_
      have hsn := flen_snoc L k hlt
      have hle := flen_le L k
      have hle1 := flen_le L (k + 1)
      rw [hsn] at hle1
      replace hsn := Lib.hid hsn
      obtain ⟨tot, htot⟩ : ∃ t, t = L.flatten.length := ⟨_, rfl⟩
      rw [← htot] at hl hle hle1 hp
      replace htot := Lib.hid htot
      go_wp2
      exact ⟨⟨k + 1, by omega, by go_num, by rw [hsn.out]; go_num⟩, by simp [intOf] <;> omega⟩
    · have hfl : flen L k = L.flatten.length := flen_all L k (by omega)
      rw [hfl]
      clear hfl
      obtain ⟨n, hn⟩ : ∃ n, n = L.flatten.length := ⟨_, rfl⟩
      rw [← hn]
      rw [← hn] at hl hp
      replace hn := Lib.hid hn
      go_wp2_with fail
      refine (grow_any hp (by omega)).mono ?_
      rintro e w2 ⟨v2, rfl, k1, k2, k3⟩
      obtain ⟨A2, c2, rfl⟩ := k1.shape
      go_wp2_with fail
      go_loopw [6, 27] (fun v i wr => ∃ k : Nat, k ≤ L.length ∧ i = .int .i64 k ∧ Own wr 5 v (((L.take k).flatten).map bv) ∧ Fresh w.heap.size v ∧ Ext w wr) (fun _ i _ => L.length - (intOf i).toNat)
      case atStart => exact ⟨0, Nat.zero_le _, rfl, by simpa using k1, by simpa using k2, k3⟩
      case round =>
        clear hlt k1 k2 k3
        obtain ⟨k, hk, rfl, hown, hf, hm⟩ := hrel
        by_cases hlt : k < L.length
        · obtain ⟨ad, x, rfl, hs, hc, hbs⟩ := row_at h4 (h5.mod hm (fun _ _ _ h => h)) (fun k x l hx hl => (h6 k x l hx hl).ext hm) hlt
          have hsn := Lib.hid (flat_snoc L k hlt)
          have hle1 := flatR_take L (k + 1)
          rw [hsn.out, List.length_append, ← hn.out] at hle1
          have hln : (((L.take k).flatten.map bv).length + (L[k].map bv).length) * 1 ≤ 140737488355328 := by
            rw [List.length_map, List.length_map]; omega
          replace hle1 := Lib.hid hle1
          replace hln := Lib.hid hln
          go_wp2_with ((with_reducible show wpList _ _ _ (⟨some 33, _, _, _, _, _⟩ :: _) _ _); refine wp_app tyB hown hbs (bv_one _) rfl (.tmp 31) (.tmp 32) rfl rfl rfl hln.out ?_; intro v2 w2 hown2 hmod2 hnx2)
          exact ⟨⟨k + 1, by omega, by go_num, by rw [hsn.out, List.map_append]; exact hown2, hnx2.fresh hf hm.size, ext_app0 hm hf hmod2⟩, by simp [intOf] <;> omega⟩
        · rw [List.take_of_length_le (by omega)] at hown
          go_wp2_with fail
          go_ret
          exact ⟨_, rfl, hown, hf, hm⟩

set_option maxHeartbeats 4000000 in
theorem join_any {w : World} {S : Nat → Prop} {y : Value} {L : List (List UInt8)} (hy : Rw w S y L) (hp : 0 < L.flatten.length) (hl : L.flatten.length ≤ 65536) :
    Calls Tryz.prog 115 #[y] w fun e w' => ∃ v', e = .returned v' ∧ Own w' 5 v' (L.flatten.map bv) ∧ Fresh w.heap.size v' ∧ Ext w w' := by
  obtain ⟨A, c, vs, hv, -, -, -, -, -, -⟩ := hy.open_
  subst hv
  go_enter Tryz.func115, Tryz.ntmps115
  go_wp2_with fail
  refine (concat_any hy hp hl).mono ?_
  rintro e w2 ⟨v2, rfl, k1, k2, k3⟩
  go_wp2_with fail
  go_ret
  exact ⟨_, rfl, k1, k2, k3⟩
end Go.Proofs.YtoockogceobfgaaGreat
namespace Go.Proofs.YtoockogceobfgaaGreat
open Go.RowKit
set_option maxRecDepth 100000

theorem pie_next (L : List (List UInt8)) (k : Nat) : (List.range (k + 1)).flatMap (pie1 L) = (List.range k).flatMap (pie1 L) ++ pie1 L k := by
  rw [List.range_succ, List.flatMap_append]
  simp
theorem fl2_mem {M : List (List UInt8)} {x : List UInt8} (h : x ∈ M) (hs : M.flatten.length ≤ 65536) : x.length ≤ 65536 := by
  obtain ⟨p, q, rfl⟩ := List.append_of_mem h
  simp only [List.flatten_append, List.flatten_cons, List.length_append] at hs
  omega
theorem pie_one (L : List (List UInt8)) (k : Nat) : (pie1 L k).length ≤ 1 := by
  unfold pie1
  repeat' split
  all_goals simp
theorem pie_len (L : List (List UInt8)) : ∀ k, ((List.range k).flatMap (pie1 L)).length ≤ k
  | 0 => by simp
  | k + 1 => by
    have := pie_len L k
    have := pie_one L k
    rw [pie_next, List.length_append]
    omega

set_option maxHeartbeats 16000000 in
theorem pieces_any {w : World} {S : Nat → Prop} {v : Value} {L : List (List UInt8)} (h : Ss w S v L) (hL : L.length ≤ 100000) (hl : (pieB L).flatten.length ≤ 65536) :
    Calls Tryz.prog 138 #[v] w fun e w' => ∃ v' vs, e = .returned v' ∧ Orw w' w.heap.size v' vs (pieB L) ∧ Ext w w' := by
  obtain ⟨A, c, rfl, -, -, -, h4⟩ := h.open_
  obtain ⟨n, hn⟩ : ∃ n, n = L.length := ⟨_, rfl⟩
  have hpm : ∀ k, k < n → ∀ x ∈ pie1 L k, x.length ≤ 65536 := fun k hk x hx =>
    fl2_mem (M := pieB L) (List.mem_flatMap.2 ⟨k, List.mem_range.2 (by omega), hx⟩) hl
  have hpl := pie_len L
  have hp1 : ∀ (k : Nat), pie1 L k = if 0 < k ∧ k + 1 < n then [tlv 129 (L.getD k [])] else if L.getD k [] = [] then [] else if k = 0 then [tlv 128 (L.getD k [])] else [tlv 130 (L.getD k [])] := fun k => by rw [hn]; rfl
  have hpB : pieB L = (List.range n).flatMap (pie1 L) := by rw [hn]; rfl
  rw [hpB]
  rw [← hn] at hL ⊢
  replace hn := Lib.hid hn
  have hcv : ∀ {wx : World} (j : Nat) (hj : j < L.length), Ext w wx → ∃ ad, A = some ad ∧ wx.cell? (ad.add j) = some (sv L[j]) := fun j hj x => by
    obtain ⟨ad, h1, h2, h3⟩ := h4.at_ hj
    exact ⟨ad, h1, ext_cell x h3⟩
  clear h hl hpB
  go_enter Tryz.func138, Tryz.ntmps138
  go_wp2_with fail
  go_loopw [3, 12] (fun v i wr => ∃ (vs : List Value) (k : Nat), i = .int .i64 k ∧ k ≤ n ∧ Orw wr w.heap.size v vs ((List.range k).flatMap (pie1 L)) ∧ Ext w wr) (fun _ i _ => n - (intOf i).toNat)
  case atStart => exact ⟨[], 0, rfl, Nat.zero_le _, Orw.nil _ _, Mod.refl _ _⟩
  case round =>
    obtain ⟨vs, k, rfl, hk, ho, hx⟩ := hrel
    have hnn := hn.out
    by_cases hlt : k < n
    · have hb : decide ((k : Int) < (n : Int)) = true := dtrue (by omega)
      obtain ⟨ad, hA, cv⟩ := hcv k (by omega) hx
      subst hA
      have hnx := pie_next L k
      have hgd : L.getD k [] = L[k]'(by omega) := by rw [List.getD_eq_getElem?_getD, List.getElem?_eq_getElem (by omega)]; rfl
      have hpk := hp1 k
      have hpx := hpm k hlt
      rw [hgd] at hpk
      rw [hpk] at hnx hpx
      generalize L[k]'(by omega) = x at *
      have hvl2 := Lib.hid (show vs.length ≤ k by rw [ho.len]; exact hpl k)
      have hk0 : (0 : Int) ≤ (k : Int) := by omega
      have hk1 : (k : Int) < (n : Int) := by omega
      have hn63 : (n : Int) ≤ 100000 := by omega
      clear hpk hgd hnn hpm hp1 hcv hpl
      obtain ⟨M, hM⟩ : ∃ M, M = (List.range k).flatMap (pie1 L) := ⟨_, rfl⟩
      rw [← hM] at ho hnx
      clear hM
      by_cases c1 : 0 < k ∧ k + 1 < n
      · rw [if_pos c1] at hnx hpx
        have hxl : x.length ≤ 65536 := by
          have := hpx _ List.mem_cons_self
          simp only [tlv, List.length_append, List.length_cons] at this
          omega
        have hst := Lib.hid hnx
        have b1 : decide (0 < k) = true := dtrue (by omega)
        have b2 : decide ((k : Int) < (n : Int) - 1) = true := dtrue (by omega)
        clear hnx hpx
        go_wp2_with fail
        refine (mtext_any 129 x hxl).mono ?_
        rintro e w1 ⟨v1, rfl, m1, m2, m3⟩
        generalize tlv 129 x = X at *
        obtain ⟨A1, c1, e1⟩ := m1.shape
        rw [List.length_map] at e1
        subst e1
        have ho1 := ho.ext m3
        have hx1 := ext_trans hx m3
        have ho2 := ho1.ext ((Mod.refl (fun _ => False) w1).alloc (.cells #[.slice A1 X.length c1] 22))
        have hx2 := ext_trans hx1 ((Mod.refl (fun _ => False) w1).alloc (.cells #[.slice A1 X.length c1] 22))
        have m4 := m1.alloc (.cells #[.slice A1 X.length c1] 22)
        have hsl := Sl.one w1 22 (.slice A1 X.length c1)
        have m5 := fresh_le m2 hx.size
        go_wp2_with ((with_reducible show wpList _ _ _ (⟨some 34, _, _, _, _, _⟩ :: _) _ _); refine wp_app tyR ho2.own hsl (one_ok _ rfl) rfl (.tmp 30) (.tmp 33) rfl rfl rfl (by have := hvl2.out; simp only [List.length_singleton]; omega) ?_; intro v4 w4 q1 q2 q3)
        have ho3 := ho2.snoc q1 q2 q3 m4 m5 hx2.size
        have hx4 : Ext w w4 := hx2.trans q2 (fun _ _ h => h) (fun b hb h => by have := ho2.fresh b h; omega)
        exact ⟨⟨_, k + 1, by go_num, by omega, by rw [hst.out]; exact ho3, hx4⟩, by simp [intOf] <;> omega⟩
      rw [if_neg c1] at hnx hpx
      have hz1 : (0 < k ∧ ¬ (k + 1 < n)) ∨ k = 0 := by omega
      by_cases hx0 : x = []
      · rw [if_pos hx0, List.append_nil] at hnx
        subst hx0
        have hst := Lib.hid hnx
        clear hnx hpx
        rcases hz1 with ⟨z1, z2⟩ | z1
        · have b1 : decide (0 < k) = true := dtrue (by omega)
          have b2 : decide ((k : Int) < (n : Int) - 1) = false := dfalse (by omega)
          go_wp2_with fail
          exact ⟨⟨_, k + 1, by go_num, by omega, by rw [hst.out]; exact ho, hx⟩, by simp [intOf] <;> omega⟩
        · have b1 : decide (0 < k) = false := dfalse (by omega)
          clear z1
          go_wp2_with fail
          exact ⟨⟨_, k + 1, by go_num, by omega, by rw [hst.out]; exact ho, hx⟩, by simp [intOf] <;> omega⟩
      rw [if_neg hx0] at hnx hpx
      have b3 : x.isEmpty = false := by simpa using hx0
      rcases hz1 with ⟨z1, z2⟩ | z1
      · have z3 : ¬ k = 0 := by omega
        rw [if_neg z3] at hnx hpx
        have b1 : decide (0 < k) = true := dtrue (by omega)
        have b2 : decide ((k : Int) < (n : Int) - 1) = false := dfalse (by omega)
        have b4 : ((k : Int) == 0) = false := by rw [beq_eq_false_iff_ne]; omega
        have hxl : x.length ≤ 65536 := by
          have := hpx _ List.mem_cons_self
          simp only [tlv, List.length_append, List.length_cons] at this
          omega
        have hst := Lib.hid hnx
        clear hnx hpx
        go_wp2_with fail
        refine (mtext_any 130 x hxl).mono ?_
        rintro e w1 ⟨v1, rfl, m1, m2, m3⟩
        generalize tlv 130 x = X at *
        obtain ⟨A1, c1, e1⟩ := m1.shape
        rw [List.length_map] at e1
        subst e1
        have ho1 := ho.ext m3
        have hx1 := ext_trans hx m3
        have ho2 := ho1.ext ((Mod.refl (fun _ => False) w1).alloc (.cells #[.slice A1 X.length c1] 22))
        have hx2 := ext_trans hx1 ((Mod.refl (fun _ => False) w1).alloc (.cells #[.slice A1 X.length c1] 22))
        have m4 := m1.alloc (.cells #[.slice A1 X.length c1] 22)
        have hsl := Sl.one w1 22 (.slice A1 X.length c1)
        have m5 := fresh_le m2 hx.size
        go_wp2_with ((with_reducible show wpList _ _ _ (⟨some 21, _, _, _, _, _⟩ :: _) _ _); refine wp_app tyR ho2.own hsl (one_ok _ rfl) rfl (.tmp 17) (.tmp 20) rfl rfl rfl (by have := hvl2.out; simp only [List.length_singleton]; omega) ?_; intro v4 w4 q1 q2 q3)
        have ho3 := ho2.snoc q1 q2 q3 m4 m5 hx2.size
        have hx4 : Ext w w4 := hx2.trans q2 (fun _ _ h => h) (fun b hb h => by have := ho2.fresh b h; omega)
        exact ⟨⟨_, k + 1, by go_num, by omega, by rw [hst.out]; exact ho3, hx4⟩, by simp [intOf] <;> omega⟩
      · rw [if_pos z1] at hnx hpx
        have b1 : decide (0 < k) = false := dfalse (by omega)
        have b4 : ((k : Int) == 0) = true := by rw [beq_iff_eq]; omega
        have hxl : x.length ≤ 65536 := by
          have := hpx _ List.mem_cons_self
          simp only [tlv, List.length_append, List.length_cons] at this
          omega
        have hst := Lib.hid hnx
        clear hnx hpx z1 c1
        go_wp2_with fail
        refine (mtext_any 128 x hxl).mono ?_
        rintro e w1 ⟨v1, rfl, m1, m2, m3⟩
        generalize tlv 128 x = X at *
        obtain ⟨A1, c1, e1⟩ := m1.shape
        rw [List.length_map] at e1
        subst e1
        have ho1 := ho.ext m3
        have hx1 := ext_trans hx m3
        have ho2 := ho1.ext ((Mod.refl (fun _ => False) w1).alloc (.cells #[.slice A1 X.length c1] 22))
        have hx2 := ext_trans hx1 ((Mod.refl (fun _ => False) w1).alloc (.cells #[.slice A1 X.length c1] 22))
        have m4 := m1.alloc (.cells #[.slice A1 X.length c1] 22)
        have hsl := Sl.one w1 22 (.slice A1 X.length c1)
        have m5 := fresh_le m2 hx.size
        go_wp2_with ((with_reducible show wpList _ _ _ (⟨some 45, _, _, _, _, _⟩ :: _) _ _); refine wp_app tyR ho2.own hsl (one_ok _ rfl) rfl (.tmp 41) (.tmp 44) rfl rfl rfl (by have := hvl2.out; simp only [List.length_singleton]; omega) ?_; intro v4 w4 q1 q2 q3)
        have ho3 := ho2.snoc q1 q2 q3 m4 m5 hx2.size
        have hx4 : Ext w w4 := hx2.trans q2 (fun _ _ h => h) (fun b hb h => by have := ho2.fresh b h; omega)
        exact ⟨⟨_, k + 1, by go_num, by omega, by rw [hst.out]; exact ho3, hx4⟩, by simp [intOf] <;> omega⟩
    · have hb : decide ((k : Int) < (n : Int)) = false := dfalse (by omega)
      have hkn : k = n := by omega
      subst hkn
      clear hpm hp1 hcv hpl hnn
      go_wp2_with fail
      go_ret
      exact ⟨_, _, rfl, ho, hx⟩
end Go.Proofs.YtoockogceobfgaaGreat
