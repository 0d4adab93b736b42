/- entry: entries as bytes, and back; pure. -/
import Derived.Test.YtlaaicdofompkaaWri
namespace Go.Proofs.Ytlaaicdofompkaa
open Go.RowKit
set_option maxRecDepth 100000

structure Att where
  typ : List UInt8
  vals : List (List UInt8)
instance : Inhabited Att := ⟨⟨[], []⟩⟩
structure Ent where
  dn : List Av
  ats : List Att
def lb (l : List UInt8) : List UInt8 := enc7 l.length ++ l
def avE (a : Av) : List UInt8 := lb a.1 ++ lb a.2
def atE (a : Att) : List UInt8 := lb a.typ ++ (enc7 a.vals.length ++ a.vals.flatMap lb)
def encE (e : Ent) : List UInt8 := enc7 e.dn.length ++ (e.dn.flatMap avE ++ (enc7 e.ats.length ++ e.ats.flatMap atE))
def isAt (a : Att) : Prop := isTyp a.typ ∧ 1 ≤ a.vals.length ∧ a.vals.length ≤ 16 ∧ ∀ v ∈ a.vals, v.length ≤ 256
instance (a : Att) : Decidable (isAt a) := inferInstanceAs (Decidable (_ ∧ _))
def isE (e : Ent) : Prop := isName e.dn ∧ e.ats.length ≤ 16 ∧ ∀ a ∈ e.ats, isAt a
instance (e : Ent) : Decidable (isE e) := inferInstanceAs (Decidable (_ ∧ _))
def wV (vs : List (List UInt8)) : Nat := (vs.map fun v => 1 + v.length).sum
def wD (d : List Av) : Nat := (d.map fun a => 1 + a.1.length + a.2.length).sum
def wA (l : List Att) : Nat := (l.map fun a => 1 + a.typ.length + wV a.vals).sum
def wE (e : Ent) : Nat := wD e.dn + wA e.ats

abbrev St := Option (List UInt8)
def rdAvs : Nat → St → List Av → List Av × St
  | 0, st, acc => (acc, st)
  | _ + 1, none, acc => (acc, none)
  | m + 1, some l, acc => rdAvs m (takeB (takeB (some l)).2).2 (acc ++ [((takeB (some l)).1, (takeB (takeB (some l)).2).1)])
def rdVals : Nat → St → List (List UInt8) → List (List UInt8) × St
  | 0, st, acc => (acc, st)
  | _ + 1, none, acc => (acc, none)
  | m + 1, some l, acc => rdVals m (takeB (some l)).2 (acc ++ [(takeB (some l)).1])
def atT (st : St) : Att × St := (⟨(takeB st).1, (rdVals (takeN (takeB st).2).1 (takeN (takeB st).2).2 []).1⟩, (rdVals (takeN (takeB st).2).1 (takeN (takeB st).2).2 []).2)
def rdAts : Nat → St → List Att → List Att × St
  | 0, st, acc => (acc, st)
  | _ + 1, none, acc => (acc, none)
  | m + 1, some l, acc => rdAts m (atT (some l)).2 (acc ++ [(atT (some l)).1])
def readE (s : List UInt8) : Ent × St :=
  (⟨(rdAvs (takeN (some s)).1 (takeN (some s)).2 []).1, (rdAts (takeN (rdAvs (takeN (some s)).1 (takeN (some s)).2 []).2).1 (takeN (rdAvs (takeN (some s)).1 (takeN (some s)).2 []).2).2 []).1⟩,
    (rdAts (takeN (rdAvs (takeN (some s)).1 (takeN (some s)).2 []).2).1 (takeN (rdAvs (takeN (some s)).1 (takeN (some s)).2 []).2).2 []).2)
def goodE (s : List UInt8) : Prop := (readE s).2 = some [] ∧ isE (readE s).1 ∧ encE (readE s).1 = s
instance (s : List UInt8) : Decidable (goodE s) := inferInstanceAs (Decidable (_ ∧ _))
def eZ : Ent := ⟨[], []⟩
def decE (s : List UInt8) : Ent := if goodE s then (readE s).1 else eZ
def decN (s : List UInt8) : Nat := if goodE s then 0 else 3

theorem take_lb (l rest : List UInt8) (h : l.length ≤ 4611686018427387904) : takeB (some (lb l ++ rest)) = (l, some rest) := takeB_enc l rest h
theorem read_avs (rest : List UInt8) : ∀ (d acc : List Av), (∀ a ∈ d, a.1.length ≤ 4611686018427387904 ∧ a.2.length ≤ 4611686018427387904) → rdAvs d.length (some (d.flatMap avE ++ rest)) acc = (acc ++ d, some rest)
  | [], acc, _ => by simp [rdAvs]
  | a :: d, acc, h => by
    have h1 := h a List.mem_cons_self
    have e : (a :: d).flatMap avE ++ rest = lb a.1 ++ (lb a.2 ++ (d.flatMap avE ++ rest)) := by
      rw [List.flatMap_cons]; unfold avE; simp only [List.append_assoc]
    rw [e, List.length_cons]
    unfold rdAvs
    rw [take_lb a.1 _ h1.1, take_lb a.2 _ h1.2]
    rw [read_avs rest d _ (fun x hx => h x (List.mem_cons_of_mem _ hx))]
    simp
theorem read_vals (rest : List UInt8) : ∀ (d acc : List (List UInt8)), (∀ a ∈ d, a.length ≤ 4611686018427387904) → rdVals d.length (some (d.flatMap lb ++ rest)) acc = (acc ++ d, some rest)
  | [], acc, _ => by simp [rdVals]
  | a :: d, acc, h => by
    have h1 := h a List.mem_cons_self
    have e : (a :: d).flatMap lb ++ rest = lb a ++ (d.flatMap lb ++ rest) := by
      rw [List.flatMap_cons]; simp only [List.append_assoc]
    rw [e, List.length_cons]
    unfold rdVals
    rw [take_lb a _ h1]
    rw [read_vals rest d _ (fun x hx => h x (List.mem_cons_of_mem _ hx))]
    simp
theorem atT_enc (a : Att) (rest : List UInt8) (h : isAt a) : atT (some (atE a ++ rest)) = (a, some rest) := by
  obtain ⟨h1, h2, h3, h4⟩ := h
  have h5 := h1.2.1
  have e : atE a ++ rest = lb a.typ ++ (enc7 a.vals.length ++ (a.vals.flatMap lb ++ rest)) := by unfold atE; simp only [List.append_assoc]
  unfold atT
  rw [e, take_lb a.typ _ (by omega), takeN_enc a.vals.length _ (by omega), read_vals rest a.vals [] (fun v hv => by have := h4 v hv; omega), List.nil_append]
theorem read_ats (rest : List UInt8) : ∀ (d acc : List Att), (∀ a ∈ d, isAt a) → rdAts d.length (some (d.flatMap atE ++ rest)) acc = (acc ++ d, some rest)
  | [], acc, _ => by simp [rdAts]
  | a :: d, acc, h => by
    have e : (a :: d).flatMap atE ++ rest = atE a ++ (d.flatMap atE ++ rest) := by
      rw [List.flatMap_cons]; simp only [List.append_assoc]
    rw [e, List.length_cons]
    unfold rdAts
    rw [atT_enc a _ (h a List.mem_cons_self)]
    rw [read_ats rest d _ (fun x hx => h x (List.mem_cons_of_mem _ hx))]
    simp
theorem read_enc {e : Ent} (h : isE e) : readE (encE e) = (e, some []) := by
  obtain ⟨⟨h1, h2⟩, h3, h4⟩ := h
  have a1 : takeN (some (encE e)) = (e.dn.length, some (e.dn.flatMap avE ++ (enc7 e.ats.length ++ e.ats.flatMap atE))) := by unfold encE; exact takeN_enc _ _ (by omega)
  have a2 := read_avs (enc7 e.ats.length ++ e.ats.flatMap atE) e.dn [] (fun a ha => by have := h2 a ha; obtain ⟨⟨_, b1, _⟩, _, b2⟩ := this; omega)
  have a3 : takeN (some (enc7 e.ats.length ++ e.ats.flatMap atE)) = (e.ats.length, some (e.ats.flatMap atE)) := takeN_enc _ _ (by omega)
  have a4 := read_ats [] e.ats [] h4
  rw [List.append_nil] at a4
  unfold readE
  simp only [a1, a2, a3, a4, List.nil_append]
/-- What is left needn't be asked: where an entry is laid so, nothing is left. -/
theorem good_iff (s : List UInt8) : goodE s ↔ (readE s).2.isNone = false ∧ isE (readE s).1 ∧ encE (readE s).1 = s := by
  constructor
  · rintro ⟨h1, h2, h3⟩
    exact ⟨by rw [h1]; rfl, h2, h3⟩
  · rintro ⟨h1, h2, h3⟩
    refine ⟨?_, h2, h3⟩
    have := read_enc h2
    rw [h3] at this
    rw [this]

/- WEIGHTS -/
theorem takeB_w (st : St) : (takeB st).1.length + (if st.isSome then 1 else 0) + mS (takeB st).2 ≤ mS st := by
  cases st with
  | none => rw [takeB_none]; exact Nat.le_refl _
  | some l =>
    have h1 := takeB_sum (some l)
    have e0 : szO (some l) = l.length := rfl
    have e1 : mS (some l) = l.length + 1 := rfl
    rw [e0] at h1
    rw [e1]
    simp only [Option.isSome_some, if_true]
    cases h2 : (takeB (some l)).2 with
    | none => show _ + 1 + 0 ≤ _; omega
    | some l1 =>
      have h3 := takeB_lt2 h2
      show _ + 1 + (l1.length + 1) ≤ _
      omega
theorem takeN_w (st : St) : mS (takeN st).2 ≤ mS st := by
  have := takeN_len st
  cases st with
  | none => exact Nat.le_refl _
  | some l =>
    cases h2 : (takeN (some l)).2 with
    | none => exact Nat.zero_le _
    | some l1 => rw [h2] at this; exact Nat.succ_le_succ this
theorem wV_snoc (l : List (List UInt8)) (v : List UInt8) : wV (l ++ [v]) = wV l + (1 + v.length) := by unfold wV; simp
theorem wD_snoc (l : List Av) (v : Av) : wD (l ++ [v]) = wD l + (1 + v.1.length + v.2.length) := by unfold wD; simp
theorem wA_snoc (l : List Att) (v : Att) : wA (l ++ [v]) = wA l + (1 + v.typ.length + wV v.vals) := by unfold wA; simp
theorem vals_w : ∀ (m : Nat) (st : St) (acc : List (List UInt8)), wV (rdVals m st acc).1 + mS (rdVals m st acc).2 ≤ wV acc + mS st
  | 0, st, acc => Nat.le_refl _
  | m + 1, none, acc => Nat.le_refl _
  | m + 1, some l, acc => by
    have h1 := vals_w m (takeB (some l)).2 (acc ++ [(takeB (some l)).1])
    have h2 := takeB_w (some l)
    rw [wV_snoc] at h1
    simp only [Option.isSome_some, if_true] at h2
    show wV (rdVals m (takeB (some l)).2 (acc ++ [(takeB (some l)).1])).1 + mS (rdVals m (takeB (some l)).2 (acc ++ [(takeB (some l)).1])).2 ≤ _
    omega
theorem avs_w : ∀ (m : Nat) (st : St) (acc : List Av), wD (rdAvs m st acc).1 + mS (rdAvs m st acc).2 ≤ wD acc + mS st
  | 0, st, acc => Nat.le_refl _
  | m + 1, none, acc => Nat.le_refl _
  | m + 1, some l, acc => by
    have h1 := avs_w m (takeB (takeB (some l)).2).2 (acc ++ [((takeB (some l)).1, (takeB (takeB (some l)).2).1)])
    have h2 := takeB_w (some l)
    have h3 := takeB_w (takeB (some l)).2
    rw [wD_snoc] at h1
    simp only [Option.isSome_some, if_true] at h1 h2
    show wD (rdAvs m (takeB (takeB (some l)).2).2 (acc ++ [((takeB (some l)).1, (takeB (takeB (some l)).2).1)])).1 + mS (rdAvs m (takeB (takeB (some l)).2).2 (acc ++ [((takeB (some l)).1, (takeB (takeB (some l)).2).1)])).2 ≤ _
    omega
theorem atT_w (l : List UInt8) : 1 + (atT (some l)).1.typ.length + wV (atT (some l)).1.vals + mS (atT (some l)).2 ≤ mS (some l) := by
  have h1 := vals_w (takeN (takeB (some l)).2).1 (takeN (takeB (some l)).2).2 []
  have h2 := takeB_w (some l)
  have h3 := takeN_w (takeB (some l)).2
  simp only [Option.isSome_some, if_true] at h2
  have h4 : wV [] = 0 := rfl
  unfold atT
  simp only
  omega
theorem ats_w : ∀ (m : Nat) (st : St) (acc : List Att), wA (rdAts m st acc).1 + mS (rdAts m st acc).2 ≤ wA acc + mS st
  | 0, st, acc => Nat.le_refl _
  | m + 1, none, acc => Nat.le_refl _
  | m + 1, some l, acc => by
    have h1 := ats_w m (atT (some l)).2 (acc ++ [(atT (some l)).1])
    have h2 := atT_w l
    rw [wA_snoc] at h1
    show wA (rdAts m (atT (some l)).2 (acc ++ [(atT (some l)).1])).1 + mS (rdAts m (atT (some l)).2 (acc ++ [(atT (some l)).1])).2 ≤ _
    omega
theorem readE_w (s : List UInt8) : wE (readE s).1 + mS (readE s).2 ≤ s.length + 1 := by
  have h1 := takeN_w (some s)
  have h2 := avs_w (takeN (some s)).1 (takeN (some s)).2 []
  have h3 := takeN_w (rdAvs (takeN (some s)).1 (takeN (some s)).2 []).2
  have h4 := ats_w (takeN (rdAvs (takeN (some s)).1 (takeN (some s)).2 []).2).1 (takeN (rdAvs (takeN (some s)).1 (takeN (some s)).2 []).2).2 []
  have e1 : wD [] = 0 := rfl
  have e2 : wA [] = 0 := rfl
  have e3 : mS (some s) = s.length + 1 := rfl
  unfold readE wE
  simp only
  omega
theorem lb_len (l : List UInt8) (h : l.length ≤ 100000000000) : (lb l).length ≤ 10 * (1 + l.length) := by
  have := enc7_ten (n := l.length) (by omega)
  unfold lb; rw [List.length_append]; omega
theorem vals_len : ∀ (vs : List (List UInt8)), wV vs ≤ 100000000000 → (vs.flatMap lb).length ≤ 10 * wV vs
  | [], _ => Nat.zero_le _
  | v :: vs, h => by
    have e : wV (v :: vs) = 1 + v.length + wV vs := rfl
    rw [e] at h
    have h1 := vals_len vs (by omega)
    have h2 := lb_len v (by omega)
    rw [List.flatMap_cons, List.length_append, e]; omega
theorem avs_len : ∀ (vs : List Av), wD vs ≤ 100000000000 → (vs.flatMap avE).length ≤ 20 * wD vs
  | [], _ => Nat.zero_le _
  | v :: vs, h => by
    have e : wD (v :: vs) = 1 + v.1.length + v.2.length + wD vs := rfl
    rw [e] at h
    have h1 := avs_len vs (by omega)
    have h2 := lb_len v.1 (by omega)
    have h3 := lb_len v.2 (by omega)
    have e2 : (avE v).length = (lb v.1).length + (lb v.2).length := List.length_append
    rw [List.flatMap_cons, List.length_append, e, e2]; omega
theorem wV_ge : ∀ (vs : List (List UInt8)), vs.length ≤ wV vs
  | [] => Nat.le_refl _
  | v :: vs => by have := wV_ge vs; have e : wV (v :: vs) = 1 + v.length + wV vs := rfl; rw [e, List.length_cons]; omega
theorem wD_ge : ∀ (vs : List Av), vs.length ≤ wD vs
  | [] => Nat.le_refl _
  | v :: vs => by have := wD_ge vs; have e : wD (v :: vs) = 1 + v.1.length + v.2.length + wD vs := rfl; rw [e, List.length_cons]; omega
theorem wA_ge : ∀ (vs : List Att), vs.length ≤ wA vs
  | [] => Nat.le_refl _
  | v :: vs => by have := wA_ge vs; have e : wA (v :: vs) = 1 + v.typ.length + wV v.vals + wA vs := rfl; rw [e, List.length_cons]; omega
theorem ats_len : ∀ (vs : List Att), wA vs ≤ 100000000000 → (vs.flatMap atE).length ≤ 30 * wA vs
  | [], _ => Nat.zero_le _
  | v :: vs, h => by
    have e : wA (v :: vs) = 1 + v.typ.length + wV v.vals + wA vs := rfl
    rw [e] at h
    have h1 := ats_len vs (by omega)
    have h2 := lb_len v.typ (by omega)
    have h3 := vals_len v.vals (by omega)
    have h4 := wV_ge v.vals
    have h5 := enc7_ten (n := v.vals.length) (by omega)
    have e2 : (atE v).length = (lb v.typ).length + ((enc7 v.vals.length).length + (v.vals.flatMap lb).length) := by unfold atE; rw [List.length_append, List.length_append]
    rw [List.flatMap_cons, List.length_append, e, e2]; omega
theorem encE_len {e : Ent} (h : wE e ≤ 100000000) : (encE e).length ≤ 30 * wE e + 20 := by
  unfold wE at h ⊢
  have h1 := avs_len e.dn (by omega)
  have h2 := ats_len e.ats (by omega)
  have h3 := wD_ge e.dn
  have h4 := wA_ge e.ats
  have h5 := enc7_ten (n := e.dn.length) (by omega)
  have h6 := enc7_ten (n := e.ats.length) (by omega)
  unfold encE
  simp only [List.length_append]
  omega
end Go.Proofs.Ytlaaicdofompkaa
