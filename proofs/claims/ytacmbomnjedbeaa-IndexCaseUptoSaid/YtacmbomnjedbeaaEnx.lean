/- entries in memory; great; an entry read in, its weight within its bulk. -/
import Derived.Test.YtacmbomnjedbeaaDnE
import Derived.Test.YtacmbomnjedbeaaAppS
import Derived.Test.YtacmbomnjedbeaaRecIn
import Derived.Test.YtacmbomnjedbeaaStrB
import Derived.Test.YtacmbomnjedbeaaFrame
import Derived.Test.YtacmbomnjedbeaaRows
import Derived.Deep.CutBlock
import Derived.Deep.DeepCutAuto
namespace Go.Proofs.Ytacmbomnjedbeaa
open Go.RowKit Go.WideShapes Go.ChangeShapes Go.Deep
set_option maxRecDepth 100000

structure Att where
  typ : List UInt8
  vals : List (List UInt8)
instance : Inhabited Att := ⟨⟨[], []⟩⟩
structure Ent where
  dn : List Av
  ats : List Att
def wV (vs : List (List UInt8)) : Nat := (vs.map fun v => 1 + v.length).sum
def wD (d : List Av) : Nat := (d.map fun a => 1 + a.1.length + a.2.length).sum
def wA (l : List Att) : Nat := (l.map fun a => 1 + a.typ.length + wV a.vals).sum
def wE (e : Ent) : Nat := wD e.dn + wA e.ats
theorem wV_ge : ∀ (vs : List (List UInt8)), vs.length ≤ wV vs
  | [] => Nat.le_refl _
  | v :: vs => by have := wV_ge vs; have e : wV (v :: vs) = 1 + v.length + wV vs := rfl; rw [e, List.length_cons]; omega
theorem wD_ge : ∀ (vs : List Av), vs.length ≤ wD vs
  | [] => Nat.le_refl _
  | v :: vs => by have := wD_ge vs; have e : wD (v :: vs) = 1 + v.1.length + v.2.length + wD vs := rfl; rw [e, List.length_cons]; omega
theorem wA_ge : ∀ (vs : List Att), vs.length ≤ wA vs
  | [] => Nat.le_refl _
  | v :: vs => by have := wA_ge vs; have e : wA (v :: vs) = 1 + v.typ.length + wV v.vals + wA vs := rfl; rw [e, List.length_cons]; omega
instance : Inhabited Att := ⟨⟨[], []⟩⟩

abbrev AtV : Type := List UInt8 × Value
abbrev atc (x : AtV) : List Value := [sv x.1, x.2]
theorem atc_len (x : AtV) : (atc x).length = 2 := rfl
theorem atc_ok {t : List UInt8} {A : Option Addr} {n c : Nat} : ∀ u ∈ atc (t, .slice A n c), u.oneCell' = true := by
  intro u hu
  simp only [atc, List.mem_cons, List.not_mem_nil, or_false] at hu
  rcases hu with rfl | rfl <;> rfl
theorem tyAt : SliceTyK Try.prog 23 37 (.agg #[.string ⟨#[]⟩, .slice none 0 0]) 2 40 := ⟨Try.underlying23, by kernel_rfl, rfl, by decide, by decide⟩
theorem tySE : SliceTy Try.prog 28 9 (.string ⟨#[]⟩) 16 := ⟨Try.underlying28, by kernel_rfl, rfl, by omega⟩
abbrev AllE : Nat → Prop := fun _ => True
/-- A slice that reads as these attributes. -/
def Ats (w : World) (v : Value) (L : List Att) : Prop :=
  ∃ rs : List AtV, Rc atc 2 w AllE v rs ∧ rs.length = L.length ∧ ∀ (k : Nat) (r : AtV) (a : Att), rs[k]? = some r → L[k]? = some a → r.1 = a.typ ∧ Ss w AllE r.2 a.vals
theorem Ats.ext {w w' : World} {v : Value} {L : List Att} (h : Ats w v L) (hm : Ext w w') : Ats w' v L := by
  obtain ⟨rs, h1, h2, h3⟩ := h
  exact ⟨rs, h1.ext hm, h2, fun k r a hr ha => ⟨(h3 k r a hr ha).1, (h3 k r a hr ha).2.ext hm⟩⟩
theorem Ats.nil (w : World) : Ats w (.slice none 0 0) [] := ⟨[], (OwnR.nil atc 2 w 0).rc.mono (fun _ _ _ => trivial), rfl, fun k r a hr => by simp at hr⟩
theorem Ats.open_ {w : World} {v : Value} {L : List Att} (h : Ats w v L) : ∃ A c, v = .slice A L.length c ∧ ∀ (i : Nat) (hi : i < L.length), ∃ ad y, A = some ad ∧ w.cell? (ad.add (i * 2)) = some (sv L[i].typ) ∧ w.cell? ⟨(ad.add (i * 2)).block, (ad.add (i * 2)).off + 1, none⟩ = some y ∧ Ss w AllE y L[i].vals := by
  obtain ⟨rs, h1, h2, h3⟩ := h
  obtain ⟨A, c, rfl, _, _, _, h4⟩ := h1.open_ atc_len
  refine ⟨A, c, by rw [h2], fun i hi => ?_⟩
  obtain ⟨ad, e1, _, c0⟩ := h4 i 0 _ (by omega) (by omega) rfl
  obtain ⟨ad', e1', _, c1⟩ := h4 i 1 _ (by omega) (by omega) rfl
  rw [e1] at e1'
  injection e1' with e1'
  subst e1'
  obtain ⟨k1, k2⟩ := h3 i rs[i] L[i] (by simp [h2, hi]) (by simp [hi])
  rw [Nat.add_zero] at c0
  rw [add_next _ _ _ (by omega)] at c1
  exact ⟨ad, rs[i].2, e1, by rw [← k1]; exact c0, c1, k2⟩

theorem wD_mem : ∀ {L : List Av} {a : Av}, a ∈ L → a.1.length + a.2.length ≤ wD L
  | [], _, h => by cases h
  | b :: L, a, h => by
    have e : wD (b :: L) = 1 + b.1.length + b.2.length + wD L := rfl
    rcases List.mem_cons.1 h with h | h
    · subst h; omega
    · have := wD_mem h; omega
theorem wV_mem : ∀ {L : List (List UInt8)} {a : List UInt8}, a ∈ L → a.length + 1 ≤ wV L
  | [], _, h => by cases h
  | b :: L, a, h => by
    have e : wV (b :: L) = 1 + b.length + wV L := rfl
    rcases List.mem_cons.1 h with h | h
    · subst h; omega
    · have := wV_mem h; omega
theorem wA_mem : ∀ {L : List Att} {a : Att}, a ∈ L → 1 + a.typ.length + wV a.vals ≤ wA L
  | [], _, h => by cases h
  | b :: L, a, h => by
    have e : wA (b :: L) = 1 + b.typ.length + wV b.vals + wA L := rfl
    rcases List.mem_cons.1 h with h | h
    · subst h; omega
    · have := wA_mem h; omega

theorem ext_cell {w w' : World} (x : Ext w w') {p : Addr} {u : Value} (h : w.cell? p = some u) : w'.cell? p = some u := (x.cell (lt_of_cell h) (fun h => h)).trans h

/-- What lies within reach. -/
structure EFits (e : Ent) : Prop where
  dn : Fits e.dn
  len : e.ats.length * 40 ≤ 140737488351232
  els : ∀ a ∈ e.ats, a.typ.length ≤ 140737488351232 ∧ a.vals.length * 16 ≤ 140737488351232 ∧ ∀ v ∈ a.vals, v.length ≤ 140737488351232

theorem take_step {α : Type} {L M : List α} {k : Nat} (h1 : k < L.length) (h2 : k < M.length) (h : L.take k = M.take k) : L.take (k + 1) = M.take (k + 1) ↔ L[k] = M[k] := by
  rw [List.take_succ_eq_append_getElem h1, List.take_succ_eq_append_getElem h2, h]
  exact ⟨fun h => List.singleton_inj.1 (List.append_cancel_left h), fun h => by rw [h]⟩
theorem take_ne {α : Type} {L M : List α} {k : Nat} (h1 : k < L.length) (h2 : k < M.length) (h : L[k] ≠ M[k]) : L ≠ M := fun e => h (by subst e; rfl)
theorem take_all_eq {α : Type} {L M : List α} {k : Nat} (h1 : k = L.length) (h2 : L.length = M.length) (h : L.take k = M.take k) : L = M := by
  rwa [List.take_of_length_le (by omega), List.take_of_length_le (by omega)] at h
theorem Blk.two (w : World) (A B : Array Value) (s t : TypeId) : Blk ((w.alloc (.cells A s)).alloc (.cells B t)).drew w.heap.size s A ∧ Blk ((w.alloc (.cells A s)).alloc (.cells B t)).drew (w.heap.size + 1) t B ∧ Ext w ((w.alloc (.cells A s)).alloc (.cells B t)).drew := by
  refine ⟨(Blk.new w _ _).mod (F := fun _ => False) (((Mod.refl _ _).alloc _).drew) (fun h => h), ?_, (((Mod.refl _ w).alloc _).alloc _).drew⟩
  have h := Blk.new (w.alloc (.cells A s)) t B
  have hs : (w.alloc (.cells A s)).heap.size = w.heap.size + 1 := by simp
  rw [hs] at h
  exact h.mod (F := fun _ => False) ((Mod.refl _ _).drew) (fun h => h)

theorem w64_lo (x : Int) : -9223372036854775808 ≤ wrap64 x ∧ wrap64 x ≤ 9223372036854775807 := by unfold wrap64; omega
theorem w64_id {x : Int} (h : -9223372036854775808 ≤ x) (h' : x ≤ 9223372036854775807) : wrap64 x = x := by unfold wrap64; omega
section
variable {α : Type} (f : α → Nat)
def sumF (L : List α) : Nat := (L.map f).sum
theorem sumF_next (L : List α) {k : Nat} (h : k < L.length) : sumF f (L.take (k + 1)) = sumF f (L.take k) + f L[k] := by
  unfold sumF
  rw [List.take_succ_eq_append_getElem h, List.map_append, List.sum_append]
  simp
theorem sumF_take : ∀ (L : List α) (k : Nat), sumF f (L.take k) ≤ sumF f L
  | [], k => by simp
  | a :: L, 0 => Nat.zero_le _
  | a :: L, k + 1 => by
    have := sumF_take L k
    show f a + sumF f (L.take k) ≤ f a + sumF f L
    omega
theorem sumF_all (L : List α) {k : Nat} (h : L.length ≤ k) : sumF f (L.take k) = sumF f L := by rw [List.take_of_length_le h]
theorem sumF_z (L : List α) : sumF f (L.take 0) = 0 := rfl
end
abbrev aW (a : Av) : Nat := 1 + a.1.length + a.2.length
abbrev vW (v : List UInt8) : Nat := 1 + v.length
abbrev atW (a : Att) : Nat := 1 + a.typ.length + wV a.vals
theorem wD_sum (l : List Av) : wD l = sumF aW l := rfl
theorem wV_sum (l : List (List UInt8)) : wV l = sumF vW l := rfl
theorem wA_sum (l : List Att) : wA l = sumF atW l := rfl
abbrev EnV : Type := Value × Value
abbrev enc2 (x : EnV) : List Value := [x.1, x.2]
theorem enc2_len (x : EnV) : (enc2 x).length = 2 := rfl
/-- A slice that reads as these entries. -/
def Ents (w : World) (v : Value) (L : List Ent) : Prop := ∃ C : List EnV, Rc enc2 2 w AllE v C ∧ C.length = L.length ∧ ∀ (k : Nat) (x : EnV) (e : Ent), C[k]? = some x → L[k]? = some e → As w AllE x.1 e.dn ∧ Ats w x.2 e.ats
theorem Ents.ext {w w' : World} {v : Value} {L : List Ent} (h : Ents w v L) (x : Ext w w') : Ents w' v L := by
  obtain ⟨C, h1, h2, h3⟩ := h
  exact ⟨C, h1.ext x, h2, fun k y e hy he => ⟨(h3 k y e hy he).1.ext x, (h3 k y e hy he).2.ext x⟩⟩
theorem Ents.open_ {w : World} {v : Value} {L : List Ent} (h : Ents w v L) : ∃ A c, v = .slice A L.length c ∧ ∀ (i : Nat) (hi : i < L.length), ∃ ad y z, A = some ad ∧ w.cell? (ad.add (i * 2)) = some y ∧ w.cell? ⟨(ad.add (i * 2)).block, (ad.add (i * 2)).off + 1, none⟩ = some z ∧ As w AllE y L[i].dn ∧ Ats w z L[i].ats := by
  obtain ⟨C, h1, h2, h3⟩ := h
  obtain ⟨A, c, rfl, _, _, _, h4⟩ := h1.open_ enc2_len
  refine ⟨A, c, by rw [h2], fun i hi => ?_⟩
  obtain ⟨ad, e1, _, c0⟩ := h4 i 0 _ (by omega) (by omega) rfl
  obtain ⟨ad', e1', _, c1⟩ := h4 i 1 _ (by omega) (by omega) rfl
  rw [e1] at e1'
  injection e1' with e1'
  subst e1'
  obtain ⟨k1, k2⟩ := h3 i C[i] L[i] (by simp [h2, hi]) (by simp [hi])
  rw [Nat.add_zero] at c0
  rw [add_next _ _ _ (by omega)] at c1
  exact ⟨ad, C[i].1, C[i].2, e1, c0, c1, k1, k2⟩
/-- What great answers: where the sum lies within an int, whether it is above 4000. -/
def GreatR (T : Nat) (e : Ending) : Prop := ∃ r, e = .returned (.bool r) ∧ (T ≤ 4611686018427387904 → r = decide (4000 < T))
theorem GreatR.of {T : Nat} {r : Bool} (h : T ≤ 4611686018427387904 → r = decide (4000 < T)) : GreatR T (.returned (.bool r)) := ⟨r, rfl, h⟩
set_option maxHeartbeats 8000000 in
theorem great20_any {w : World} {v : Value} {L : List Ent} (h : Ents w v L) (hL : L.length ≤ 1000) (hF : ∀ e ∈ L, EFits e) :
    Calls Try.prog 7 #[v] w fun e w' => GreatR (sumF wE L) e ∧ Ext w w' := by
  have hst := fun (k : Nat) => sumF_take wE L k
  have hhx := fun {wx : World} (x : Ext w wx) => (h.ext x).open_
  obtain ⟨A, c, rfl, -⟩ := h.open_
  obtain ⟨n, hn⟩ : ∃ n, n = L.length := ⟨_, rfl⟩
  obtain ⟨T, hT⟩ : ∃ T, T = sumF wE L := ⟨_, rfl⟩
  rw [← hn, ← hT]
  have hN : n ≤ 1000 := by omega
  replace hn := Lib.hid hn
  replace hT := Lib.hid hT
  clear h
  go_enter Try.func7, Try.ntmps7
  go_wp2_with fail
  go_loopw [3, 4] (fun vn vj wr => ∃ (j : Nat) (s : Int), j ≤ n ∧ vj = .int .i64 j ∧ vn = .int .i64 s ∧ -9223372036854775808 ≤ s ∧ s ≤ 9223372036854775807 ∧ Hid (T ≤ 4611686018427387904 → s = (sumF wE (L.take j) : Nat)) ∧ Ext w wr) (fun _ vj _ => n - (intOf vj).toNat)
  case atStart => exact ⟨0, 0, Nat.zero_le _, rfl, rfl, by omega, by omega, Lib.hid (fun _ => rfl), Mod.refl _ _⟩
  case round =>
    obtain ⟨j, s, hj, rfl, rfl, s1, s2, hs, hx⟩ := hrel
    by_cases hlt : j < n
    case neg =>
      have hbl : decide ((j : Int) < (n : Int)) = false := dfalse (by omega)
      have hbn : decide (j < n) = false := dfalse (by omega)
      have hR : T ≤ 4611686018427387904 → decide ((4000 : Int) < s) = decide (4000 < T) := fun hle => by
        have h1 := hs.out hle
        rw [sumF_all wE L (by have := hn.out; omega), ← hT.out] at h1
        rw [decide_eq_decide]; omega
      replace hR := Lib.hid hR
      generalize hq : decide ((4000 : Int) < s) = q at *
      go_wp2_with fail
      go_ret
      exact ⟨.of hR.out, hx⟩
    have hbl : decide ((j : Int) < (n : Int)) = true := dtrue (by omega)
    have hbn : decide (j < n) = true := dtrue (by omega)
    have l1 : j < L.length := by have := hn.out; omega
    obtain ⟨A', c', hv, hat⟩ := hhx hx
    obtain ⟨ad, y, z, hA, c0, c1, hyd, hza⟩ := hat j l1
    injection hv with hv1 _ hv3
    subst hv1
    subst hv3
    subst hA
    have hnx := sumF_next wE L l1
    have hle1 := hst (j + 1)
    rw [← hT.out] at hle1
    have hfe := hF _ (List.getElem_mem l1)
    have hwe : wE L[j] = wD L[j].dn + wA L[j].ats := rfl
    rw [hnx, hwe] at hle1
    rw [hwe] at hnx
    generalize L[j] = e at *
    clear hat l1 hwe
    have hd1 := hfe.dn
    have hd2 := hfe.len
    have hd3 := hfe.els
    obtain ⟨P, hP⟩ : ∃ P, P = sumF wE (L.take j) := ⟨_, rfl⟩
    rw [← hP] at hnx hle1 hs
    replace hP := Lib.hid hP
    replace hnx := Lib.hid hnx
    obtain ⟨A0, c0', rfl, -, -, -, hy4⟩ := hyd.open_ avc_len
    have hzx := fun {wx : World} (x : Ext wr wx) => (hza.ext x).open_
    obtain ⟨A1, c1', rfl, -⟩ := hza.open_
    obtain ⟨n0, hn0⟩ : ∃ n, n = e.dn.length := ⟨_, rfl⟩
    obtain ⟨n1, hn1⟩ : ∃ n, n = e.ats.length := ⟨_, rfl⟩
    rw [← hn0] at c0
    rw [← hn1] at c1
    have hN0 : n0 ≤ 9223372036854775806 := by have := hd1.2; omega
    have hN1 : n1 ≤ 9223372036854775806 := by omega
    have hi0 : (0 : Int) ≤ (j : Int) := by omega
    have hi1 : (j : Int) < (n : Int) := by omega
    obtain ⟨w5, hw5⟩ : ∃ x, x = wr.alloc (.cells #[.slice A0 n0 c0', .slice A1 n1 c1'] 25) := ⟨_, rfl⟩
    obtain ⟨g, hg⟩ : ∃ g, g = wr.heap.size := ⟨_, rfl⟩
    have x5 : Ext wr w5 := by rw [hw5]; exact (Mod.refl _ wr).alloc _
    have B5 : Blk w5 g 25 #[.slice A0 n0 c0', .slice A1 n1 c1'] := by rw [hw5, hg]; exact Blk.new wr _ _
    replace hw5 := Lib.hid hw5
    replace hg := Lib.hid hg
    replace hn0 := Lib.hid hn0
    replace hn1 := Lib.hid hn1
    clear hyd hza hfe hhx
    go_upto_region 6 with fail
    rw [← hw5.out, ← hg.out]
    clear hw5 hg c0 c1
    go_wp2_with fail
    go_loopw [3, 6] (fun vn vi wx => ∃ (i : Nat) (t : Int), i ≤ n0 ∧ vi = .int .i64 i ∧ vn = .int .i64 t ∧ -9223372036854775808 ≤ t ∧ t ≤ 9223372036854775807 ∧ Hid (T ≤ 4611686018427387904 → t = (P + sumF aW (e.dn.take i) : Nat)) ∧ Ext w5 wx) (fun _ vi _ => n0 - (intOf vi).toNat)
    case atStart => exact ⟨0, s, Nat.zero_le _, rfl, rfl, s1, s2, hs, Mod.refl _ _⟩
    case round =>
      obtain ⟨i, t, hi, rfl, rfl, t1, t2, ht, hx2⟩ := hrel
      have b0 : wr.cell? ⟨g, 0, none⟩ = some (.slice A0 n0 c0') := (B5.mod hx2 (fun h => h)).cell 0
      have ii0 : (0 : Int) ≤ (i : Int) := by omega
      by_cases hlt2 : i < n0
      case pos =>
        have hbl2 : decide ((i : Int) < (n0 : Int)) = true := dtrue (by omega)
        have hbn2 : decide (i < n0) = true := dtrue (by omega)
        have ii1 : (i : Int) < (n0 : Int) := by omega
        have l2 : i < e.dn.length := by have := hn0.out; omega
        obtain ⟨ad0, hA0, -, d0, d1⟩ := As.at_ (hy4.ext (ext_trans x5 hx2)) l2
        subst hA0
        have hnx2 := sumF_next aW e.dn l2
        have hle2 := sumF_take aW e.dn (i + 1)
        have hfx := hd1.1 _ (List.getElem_mem l2)
        generalize e.dn[i] = x at *
        have z1 := sv_size' x.1
        have z2 := sv_size' x.2
        have hnew : Hid (T ≤ 4611686018427387904 → wrap64 (wrap64 (wrap64 (t + 1) + (x.1.length : Int)) + (x.2.length : Int)) = ((P + sumF aW (e.dn.take (i + 1)) : Nat) : Int)) := Lib.hid fun hle => by
          have h1 := ht.out hle
          rw [← wD_sum e.dn] at hle2
          have h2 : aW x = 1 + x.1.length + x.2.length := rfl
          rw [hnx2] at hle2 ⊢
          rw [h2] at hle2 ⊢
          rw [w64_id (x := t + 1) (by omega) (by omega), w64_id (x := t + 1 + (x.1.length : Int)) (by omega) (by omega), w64_id (by omega) (by omega)]
          omega
        have hdw : ∀ m, Ext w5 (wr.drewN m) := fun m => hx2.drewN m
        clear ht hnx2 hle2 hs l2 hy4
        go_wp2_with fail
        go_quiet (fail)
        go_wp2_with fail
        exact ⟨⟨i + 1, _, by omega, by go_num, rfl, (w64_lo _).1, (w64_lo _).2, hnew, hdw _⟩, by simp [intOf] <;> omega⟩
      have hbl2 : decide ((i : Int) < (n0 : Int)) = false := dfalse (by omega)
      have hbn2 : decide (i < n0) = false := dfalse (by omega)
      have ht' : Hid (T ≤ 4611686018427387904 → t = ((P + wD e.dn + sumF atW (e.ats.take 0) : Nat) : Int)) := Lib.hid fun hle => by
        have h1 := ht.out hle
        rw [sumF_all aW e.dn (by have := hn0.out; omega)] at h1
        rw [sumF_z, wD_sum]; exact h1
      have hx3 := hx2
      clear ht hs hy4
      go_wp2_with fail
      clear b0
      go_loopw [3, 7] (fun vn vi wx => ∃ (i : Nat) (t : Int), i ≤ n1 ∧ vi = .int .i64 i ∧ vn = .int .i64 t ∧ -9223372036854775808 ≤ t ∧ t ≤ 9223372036854775807 ∧ Hid (T ≤ 4611686018427387904 → t = (P + wD e.dn + sumF atW (e.ats.take i) : Nat)) ∧ Ext w5 wx) (fun _ vi _ => n1 - (intOf vi).toNat)
      case atStart => exact ⟨0, t, Nat.zero_le _, rfl, rfl, t1, t2, ht', hx3⟩
      case round =>
        clear hx2 hx3 t1 t2 ht'
        obtain ⟨i, t, hi, rfl, rfl, t1, t2, ht, hx2⟩ := hrel
        have b1 : wr.cell? ⟨g, 1, none⟩ = some (.slice A1 n1 c1') := (B5.mod hx2 (fun h => h)).cell 1
        have ii0 : (0 : Int) ≤ (i : Int) := by omega
        by_cases hlt3 : i < n1
        case neg =>
          have hbl3 : decide ((i : Int) < (n1 : Int)) = false := dfalse (by omega)
          have hbn3 : decide (i < n1) = false := dfalse (by omega)
          have hnew : Hid (T ≤ 4611686018427387904 → t = ((sumF wE (L.take (j + 1)) : Nat) : Int)) := Lib.hid fun hle => by
            have h1 := ht.out hle
            rw [sumF_all atW e.ats (by have := hn1.out; omega)] at h1
            rw [hnx.out, h1, wA_sum]; omega
          clear ht
          go_wp2_with fail
          exact ⟨⟨j + 1, t, by omega, by go_num, rfl, t1, t2, hnew, ext_trans hx (ext_trans x5 hx2)⟩, by simp [intOf] <;> omega⟩
        have hbl3 : decide ((i : Int) < (n1 : Int)) = true := dtrue (by omega)
        have hbn3 : decide (i < n1) = true := dtrue (by omega)
        have ii1 : (i : Int) < (n1 : Int) := by omega
        have l3 : i < e.ats.length := by have := hn1.out; omega
        obtain ⟨A2, c2, hv, hat⟩ := hzx (ext_trans x5 hx2)
        obtain ⟨ad1, yv, hA1, a0, a1, hys⟩ := hat i l3
        injection hv with hv1 _ hv3
        subst hv1
        subst hv3
        subst hA1
        have hnx3 := sumF_next atW e.ats l3
        have hle3 := sumF_take atW e.ats (i + 1)
        have hfx := hd3 _ (List.getElem_mem l3)
        generalize e.ats[i] = x at *
        have hat3 : atW x = 1 + x.typ.length + wV x.vals := rfl
        rw [hat3] at hnx3
        rw [← wA_sum e.ats] at hle3
        have z1 := sv_size' x.typ
        obtain ⟨Av, cv, rfl, -, -, -, -⟩ := hys.open_
        obtain ⟨n2, hn2⟩ : ∃ n, n = x.vals.length := ⟨_, rfl⟩
        have hN2 : n2 ≤ 9223372036854775806 := by have := hfx.2.1; omega
        have hfv := hfx.2.2
        have hft := hfx.1
        rw [← hn2] at a1
        replace hn2 := Lib.hid hn2
        have hnew0 : Hid (T ≤ 4611686018427387904 → wrap64 (wrap64 (t + 1) + (x.typ.length : Int)) = ((P + wD e.dn + sumF atW (e.ats.take i) + (1 + x.typ.length) + sumF vW (x.vals.take 0) : Nat) : Int)) := Lib.hid fun hle => by
          have h1 := ht.out hle
          rw [sumF_z]
          rw [w64_id (x := t + 1) (by omega) (by omega), w64_id (by omega) (by omega)]
          omega
        clear hat l3 ht hfx hat3
        go_wp2_with fail
        go_loopw [3, 8] (fun vn vk wx => ∃ (k : Nat) (u : Int), k ≤ n2 ∧ vk = .int .i64 k ∧ vn = .int .i64 u ∧ -9223372036854775808 ≤ u ∧ u ≤ 9223372036854775807 ∧ Hid (T ≤ 4611686018427387904 → u = (P + wD e.dn + sumF atW (e.ats.take i) + (1 + x.typ.length) + sumF vW (x.vals.take k) : Nat)) ∧ Ext wr wx) (fun _ vk _ => n2 - (intOf vk).toNat)
        case atStart => exact ⟨0, _, Nat.zero_le _, rfl, rfl, (w64_lo _).1, (w64_lo _).2, hnew0, Mod.refl _ _⟩
        case round =>
          obtain ⟨k, u, hk, rfl, rfl, u1, u2, hu, hx4⟩ := hrel
          have hx5 := ext_trans hx2 hx4
          have b1' := ext_cell hx4 b1
          have a0' := ext_cell hx4 a0
          have a1' := ext_cell hx4 a1
          have kk0 : (0 : Int) ≤ (k : Int) := by omega
          by_cases hlt4 : k < n2
          case neg =>
            have hbl4 : decide ((k : Int) < (n2 : Int)) = false := dfalse (by omega)
            have hbn4 : decide (k < n2) = false := dfalse (by omega)
            have hnew : T ≤ 4611686018427387904 → u = ((P + wD e.dn + sumF atW (e.ats.take (i + 1)) : Nat) : Int) := fun hle => by
              have h1 := hu.out hle
              rw [sumF_all vW x.vals (by have := hn2.out; omega)] at h1
              rw [hnx3, h1, wV_sum]; omega
            have htop : T ≤ 4611686018427387904 → (4000 : Int) < u → 4000 < T := fun hle h4 => by
              have h1 := hnew hle
              omega
            replace hnew := Lib.hid hnew
            replace htop := Lib.hid htop
            clear hu hnew0 b1 a0 a1
            by_cases h4 : (4000 : Int) < u
            · have hb4 : decide ((4000 : Int) < u) = true := dtrue h4
              go_wp2_with fail
              go_ret
              exact ⟨.of (fun hle => (decide_eq_true (htop.out hle h4)).symm), ext_trans hx (ext_trans x5 hx5)⟩
            · have hb4 : decide ((4000 : Int) < u) = false := dfalse h4
              go_wp2_with fail
              exact ⟨⟨i + 1, u, by omega, by go_num, rfl, u1, u2, hnew, hx5⟩, by simp [intOf] <;> omega⟩
          have hbl4 : decide ((k : Int) < (n2 : Int)) = true := dtrue (by omega)
          have hbn4 : decide (k < n2) = true := dtrue (by omega)
          have kk1 : (k : Int) < (n2 : Int) := by omega
          have l4 : k < x.vals.length := by have := hn2.out; omega
          obtain ⟨A3, c3, e1, _, _, _, h5⟩ := (Sl.ext hys hx4).open_
          injection e1 with e1 _ e3
          subst e1
          subst e3
          obtain ⟨ad2, e2, _, h6⟩ := h5.at_ l4
          subst e2
          have hnx4 := sumF_next vW x.vals l4
          have hle4 := sumF_take vW x.vals (k + 1)
          have hfz := hfv _ (List.getElem_mem l4)
          generalize x.vals[k] = q at *
          have z4 := sv_size' q
          have hnew4 : Hid (T ≤ 4611686018427387904 → wrap64 (wrap64 (u + 1) + (q.length : Int)) = ((P + wD e.dn + sumF atW (e.ats.take i) + (1 + x.typ.length) + sumF vW (x.vals.take (k + 1)) : Nat) : Int)) := Lib.hid fun hle => by
            have h1 := hu.out hle
            rw [← wV_sum x.vals] at hle4
            have h2 : vW q = 1 + q.length := rfl
            rw [hnx4, h2] at hle4 ⊢
            rw [w64_id (x := u + 1) (by omega) (by omega), w64_id (by omega) (by omega)]
            omega
          clear hu hnx4 hle4 h5 l4 hnew0 b1 a0 a1
          go_wp2_with fail
          exact ⟨⟨k + 1, _, by omega, by go_num, rfl, (w64_lo _).1, (w64_lo _).2, hnew4, hx4⟩, by simp [intOf] <;> omega⟩
section
variable {H : Type} {enc : TypeId × Value → H} {P : Program} {W : World} {base : Nat} {spare : Nat → Bool} {held : Bool} {t e : TypeId} {v : Value} {d : DataW H} {p : List MemPlace}
theorem strs_sum : ∀ (l : List ByteArray), wV (l.map fun s => s.data.toList) ≤ Rows.uptoBulkAll (Go.ChangeShapes.strs l : List (DataW H))
  | [] => Nat.zero_le _
  | s :: l => by
    have h := strs_sum l
    have e : wV ((s :: l).map fun s => s.data.toList) = 1 + s.data.toList.length + wV (l.map fun s => s.data.toList) := rfl
    have e2 : (Go.ChangeShapes.strs (s :: l) : List (DataW H)) = .lit (.string s.data.toList) :: Go.ChangeShapes.strs l := rfl
    rw [e, e2]
    simp only [Rows.uptoBulkAll, Rows.uptoBulk]
    omega
theorem bulk_sum {α : Type} (wt : α → Nat) (q : Nat → α) (D : Nat → DataW H) : ∀ (l : List Nat), (∀ i ∈ l, wt (q i) ≤ Rows.uptoBulk (D i)) → ((l.map q).map wt).sum ≤ Rows.uptoBulkAll (l.map D)
  | [], _ => Nat.zero_le _
  | i :: l, h => by
    have h1 := bulk_sum wt q D l (fun j hj => h j (List.mem_cons_of_mem _ hj))
    have h2 := h i List.mem_cons_self
    simp only [List.map_cons, List.sum_cons, Rows.uptoBulkAll]
    omega
theorem strs_in_bulk {ts : List TypeId} {ds : List (DataW H)} {j : Nat} (ht : P.underlying t = some (.slice e)) (he : P.underlying e = some .string) (hc : P.cellsOf e = 1) (hby : P.bytesOf e = 16) (hv : ∃ a len cap, v = .slice a len cap) (h : DataW.Trod enc P W base spare held t v d p)
    (hsz : (DataW.weightsEach P ts ds).all (· ≤ reachBytes) = true) (htj : ts[j]? = some t) (hj : ds[j]? = some d) :
    ∃ L : List (List UInt8), Ss W (fun _ => True) v L ∧ (∀ l ∈ L, l.length ≤ 140737488351232) ∧ L.length * 16 ≤ 140737488351232 ∧ wV L ≤ Rows.uptoBulk d := by
  obtain ⟨a0, len0, cap0, rfl⟩ := hv
  obtain ⟨fuel, hf⟩ := h
  rcases Go.ChangeShapes.open_strings ht he hc hf with ⟨hcs, _⟩ | ⟨x, l, c, ss, hcs, _, hl, hm, hz, hx, hcell, hwz⟩
  · simp [Value.cells] at hcs
    obtain ⟨rfl, rfl, rfl⟩ := hcs
    exact ⟨[], Sl.nil _ _, (fun l hl => by cases hl), by simp, Nat.zero_le _⟩
  · simp [Value.cells] at hcs
    obtain ⟨rfl, rfl, rfl⟩ := hcs
    have hzl : len0 ≤ ss.length := by split at hz <;> omega
    injection hx with hd _
    subst hd
    have hs1 := sized_slice hsz htj hj ht
    rw [hby] at hs1
    simp only [Go.ChangeShapes.strs, List.length_map, List.length_take, List.length_drop, reachBytes] at hs1
    refine ⟨(ss.take len0).map fun s => s.data.toList, ⟨x |> some, cap0, by simp; omega, by simp; omega, hm, by simp, fun k u hu => ⟨x, rfl, trivial, ?_⟩⟩, fun l hl => ?_, by rw [List.length_map, List.length_take]; omega, by simp only [Rows.uptoBulk]; have := strs_sum (H := H) (ss.take len0); omega⟩
    · rw [List.getElem?_map, List.getElem?_map, List.getElem?_take] at hu
      split at hu
      · rename_i hk
        have hk2 : k < ss.length := by omega
        rw [List.getElem?_eq_getElem hk2] at hu
        simp only [Option.map_some, Option.some.injEq] at hu
        have h2 := hcell k hk2
        rw [List.getD_eq_getElem?_getD, List.getElem?_eq_getElem hk2, Option.getD_some] at h2
        rw [h2, ← hu, sv_of]
      · simp at hu
    · obtain ⟨s, hs, rfl⟩ := List.mem_map.1 hl
      have hmem : (DataW.lit (.string s.data.toList) : DataW H) ∈ (Go.ChangeShapes.strs (ss.take len0) : List (DataW H)) := List.mem_map.2 ⟨s, hs, rfl⟩
      have hw : s.data.toList.length ∈ DataW.weightsAll P e (Go.ChangeShapes.strs (ss.take len0) : List (DataW H)) := mem_weightsAll hmem (by simp [DataW.weights])
      have := List.all_eq_true.1 hsz _ (DataW.weights_mem_each htj hj s.data.toList.length (by simp only [DataW.weights, ht]; exact List.mem_cons_of_mem _ (List.mem_append_left _ hw)))
      exact of_decide_eq_true this
theorem recs_in_bulk {α : Type} [Inhabited α] (f : α → List Value) {k bts : Nat} (hf : ∀ a, (f a).length = k) (R : α → Prop) (wt : α → Nat) (ht : P.underlying t = some (.slice e)) (ce : P.cellsOf e = k) (hby : P.bytesOf e = bts)
    (each : ∀ cs x n, DataW.trod enc P W base spare held n e cs = some x → Light P e x.1 → ∃ a, cs = f a ∧ R a ∧ wt a ≤ Rows.uptoBulk x.1) (hv : ∃ a len cap, v = .slice a len cap) (h : DataW.Trod enc P W base spare held t v d p) (hl : Light P t d) :
    ∃ L, Rc f k W (fun _ => True) v L ∧ (∀ a ∈ L, R a) ∧ L.length * bts ≤ 140737488351232 ∧ (L.map wt).sum ≤ Rows.uptoBulk d := by
  obtain ⟨a0, len0, cap0, rfl⟩ := hv
  obtain ⟨fuel, hfu⟩ := h
  rcases open_slice ht hfu with ⟨hcs, _⟩ | ⟨a, len, cap, m, n, D, Pl, hcs, _, hlc, hm, hmm, hx, hcell⟩
  · simp [Value.cells] at hcs
    obtain ⟨rfl, rfl, rfl⟩ := hcs
    exact ⟨[], Rc.nil _ _ _ _, (fun l hl => by cases hl), by simp, Nat.zero_le _⟩
  · simp [Value.cells] at hcs
    obtain ⟨rfl, rfl, rfl⟩ := hcs
    have hlm : len0 ≤ m := by rw [hmm]; split <;> omega
    injection hx with hd _
    subst hd
    have every : ∀ i, i < len0 → ∃ b, (W.cells? base (a.add (i * P.cellsOf e)) (P.cellsOf e) = some (f b)) ∧ R b ∧ wt b ≤ Rows.uptoBulk (D i) := by
      intro i hi
      obtain ⟨cs', h1, h2⟩ := hcell i (by omega)
      obtain ⟨b, hb, hR, hB⟩ := each cs' _ _ h2 (hl.elem ht (List.mem_map.2 ⟨i, List.mem_range.2 hi, rfl⟩))
      exact ⟨b, by rw [h1, hb], hR, hB⟩
    obtain ⟨q, hq⟩ := choose_lt every
    refine ⟨(List.range len0).map q, ⟨some a, cap0, by simp, by simp; omega, hm, by simp, by rw [flat_len hf], fun j u hu => ⟨a, rfl, trivial, ?_⟩⟩, fun l hl => ?_, ?_, ?_⟩
    · have hk : j < len0 * k := by
        have := (List.getElem?_eq_some_iff.1 hu).1
        rw [flat_len hf] at this
        simpa using this
      have hk0 : 0 < k := by
        rcases Nat.eq_zero_or_pos k with h0 | h0
        · rw [h0] at hk; omega
        · exact h0
      obtain ⟨i, b, hb, rfl⟩ : ∃ i b, b < k ∧ j = i * k + b := ⟨j / k, j % k, Nat.mod_lt _ hk0, by rw [Nat.mul_comm]; exact (Nat.div_add_mod j k).symm⟩
      have hi : i < len0 := by
        rcases Nat.lt_or_ge i len0 with h | h
        · exact h
        · have := Nat.mul_le_mul_right k h; omega
      rw [flat_at hf _ i b (by simpa using hi) hb] at hu
      simp only [List.getElem_map, List.getElem_range] at hu
      obtain ⟨h1, _, _⟩ := hq i hi
      obtain ⟨_, _, h3⟩ := World.cells?_some h1
      have := h3 b (by rw [ce]; exact hb)
      rw [hu, add_of_add, ce] at this
      exact this
    · obtain ⟨i, hi, rfl⟩ := List.mem_map.1 hl
      exact (hq i (List.mem_range.1 hi)).2.1
    · have := hl.len ht
      rw [hby] at this
      simpa using this
    · simp only [Rows.uptoBulk]
      have := bulk_sum wt q D (List.range len0) (fun i hi => (hq i (List.mem_range.1 hi)).2.2)
      omega
theorem ava_each_bulk {f0 f1 : Field} (he : P.underlying e = some (.struct #[f0, f1])) (ce : P.cellsOf e = 2) (o0 : f0.offset = 0) (o1 : f1.offset = 1) (c0 : P.cellsOf f0.type = 1) (c1 : P.cellsOf f1.type = 1)
    (s0 : P.underlying f0.type = some .string) (s1 : P.underlying f1.type = some .string) (cs : List Value) (x : DataW H × List MemPlace) (n : Nat) (h : DataW.trod enc P W base spare held n e cs = some x) (hl : Light P e x.1) :
    ∃ a : List UInt8 × List UInt8, cs = avc a ∧ (a.1.length ≤ 140737488351232 ∧ a.2.length ≤ 140737488351232) ∧ aW a ≤ Rows.uptoBulk x.1 := by
  obtain ⟨xs, m, _, rfl, hlen, hxl, hfi⟩ := DataW.trod_struct he h
  match xs, hxl, cs, hlen.trans ce with
  | [y0, y1], _, [v0, v1], _ =>
    have g0 := hfi 0 f0 rfl
    have g1 := hfi 1 f1 rfl
    simp [o0, o1, c0, c1] at g0 g1
    obtain ⟨x0, q0, z0, _⟩ := DataW.trod_string s0 g0
    obtain ⟨x1, q1, z1, _⟩ := DataW.trod_string s1 g1
    injection q0 with q0
    injection q1 with q1
    have l0 := Light.part (j := 0) he hl rfl rfl
    have l1 := Light.part (j := 1) he hl rfl rfl
    rw [z0] at l0
    rw [z1] at l1
    exact ⟨(x0.data.toList, x1.data.toList), by rw [q0, q1, sv_of x0, sv_of x1], ⟨l0.str, l1.str⟩, by rw [z0, z1]; simp only [List.map_cons, List.map_nil, Rows.uptoBulk, Rows.uptoBulkAll, aW]; omega⟩
end
section
variable {H : Type} {enc : TypeId × Value → H} {W : World} {base : Nat} {spare : Nat → Bool} {held : Bool} {v : Value} {d : DataW H} {p : List MemPlace}
theorem light_all {P : Program} {t : TypeId} (h : Light P t d) : (DataW.weightsEach P [t] [d]).all (· ≤ reachBytes) = true := by
  rw [List.all_eq_true]
  intro q hq
  have : q ∈ d.weights P t := by simpa [DataW.weightsEach] using hq
  have := h q this
  exact decide_eq_true (by simpa [reachBytes] using this)
abbrev AtC : Type := Att × Value
abbrev atcc (x : AtC) : List Value := [sv x.1.typ, x.2]
theorem atcc_len (x : AtC) : (atcc x).length = 2 := rfl
instance : Inhabited AtC := ⟨(⟨[], []⟩, .nilFunc)⟩
instance : Inhabited AtC := ⟨(⟨[], []⟩, .nilFunc)⟩
theorem avas_in_bulk (h : DataW.Trod enc Try.prog W base spare held 22 v d p) (hv : ∃ a len cap, v = .slice a len cap) (hl : Light Try.prog 22 d) : ∃ L, As W (fun _ => True) v L ∧ Fits L ∧ wD L ≤ Rows.uptoBulk d := by
  obtain ⟨L, h1, h2, h3, h4⟩ := recs_in_bulk avc avc_len (fun a => a.1.length ≤ 140737488351232 ∧ a.2.length ≤ 140737488351232) aW Try.underlying22 (by kernel_rfl) (bts := 32) (by kernel_rfl)
    (ava_each_bulk Try.underlying46 (by kernel_rfl) rfl rfl (by kernel_rfl) (by kernel_rfl) Try.underlying9 Try.underlying9) hv h hl
  exact ⟨L, h1, ⟨h2, h3⟩, h4⟩
theorem avas_cell_bulk {v1 : Value} {z : DataW H × List MemPlace} {n : Nat} (h : DataW.trod enc Try.prog W base spare held n 22 [v1] = some z) (hl : Light Try.prog 22 z.1) : ∃ L, As W (fun _ => True) v1 L ∧ Fits L ∧ wD L ≤ Rows.uptoBulk z.1 := by
  obtain ⟨a, l, c, rfl⟩ := slice_val Try.underlying22 h
  exact avas_in_bulk (v := .slice a l c) (d := z.1) (p := z.2) ⟨n, by simpa [Value.cells] using h⟩ ⟨_, _, _, rfl⟩ hl
theorem strs_bulk {fuel : Nat} {x : Value} (h : DataW.trod enc Try.prog W base spare held fuel 28 [x] = some (d, p)) (hl : Light Try.prog 28 d) :
    ∃ L, Ss W (fun _ => True) x L ∧ L.length * 16 ≤ 140737488351232 ∧ (∀ l ∈ L, l.length ≤ 140737488351232) ∧ wV L ≤ Rows.uptoBulk d := by
  have hsl := slice_val Try.underlying28 h
  have hx1 : x.cells.toList = [x] := by obtain ⟨a, b, c, e⟩ := hsl; rw [e]; rfl
  obtain ⟨L, h1, h2, h3, h4⟩ := strs_in_bulk (ts := [28]) (ds := [d]) (j := 0) (v := x) (d := d) (p := p) Try.underlying28 Try.underlying9 (by kernel_rfl) (by kernel_rfl) hsl ⟨fuel, by rw [hx1]; exact h⟩ (light_all hl) rfl rfl
  exact ⟨L, h1, h3, h2, h4⟩
theorem attr_each_bulk (cs : List Value) (x : DataW H × List MemPlace) (n : Nat) (h : DataW.trod enc Try.prog W base spare held n 37 cs = some x) (hl : Light Try.prog 37 x.1) :
    ∃ c : AtC, cs = atcc c ∧ (Ss W AllE c.2 c.1.vals ∧ c.1.typ.length ≤ 140737488351232 ∧ c.1.vals.length * 16 ≤ 140737488351232 ∧ ∀ v ∈ c.1.vals, v.length ≤ 140737488351232) ∧ atW c.1 ≤ Rows.uptoBulk x.1 := by
  obtain ⟨xs, m, _, rfl, hlen, hxl, hfi⟩ := DataW.trod_struct Try.underlying37 h
  have hc : Try.prog.cellsOf 37 = 2 := by kernel_rfl
  match xs, hxl, cs, hlen.trans hc with
  | [y0, y1], _, [v0, v1], _ =>
    have k1 : Try.prog.cellsOf 9 = 1 := by kernel_rfl
    have k2 : Try.prog.cellsOf 28 = 1 := by kernel_rfl
    have g0 : DataW.trod enc Try.prog W base spare held m 9 (([v0, v1].drop 0).take (Try.prog.cellsOf 9)) = some y0 := hfi 0 _ rfl
    rw [k1] at g0
    replace g0 : DataW.trod enc Try.prog W base spare held m 9 [v0] = some y0 := g0
    have g1 : DataW.trod enc Try.prog W base spare held m 28 (([v0, v1].drop 1).take (Try.prog.cellsOf 28)) = some y1 := hfi 1 _ rfl
    rw [k2] at g1
    replace g1 : DataW.trod enc Try.prog W base spare held m 28 [v1] = some y1 := g1
    obtain ⟨x0, q0, z0, _⟩ := DataW.trod_string Try.underlying9 g0
    have l0 := Light.part (j := 0) Try.underlying37 hl rfl rfl
    have l1 := Light.part (j := 1) Try.underlying37 hl rfl rfl
    obtain ⟨L1, a1, f1, f2, f3⟩ := strs_bulk g1 l1
    rw [z0] at l0
    injection q0 with q0
    exact ⟨(⟨x0.data.toList, L1⟩, v1), by rw [q0, sv_of x0], ⟨a1, l0.str, f1, f2⟩, by rw [z0]; simp only [List.map_cons, List.map_nil, Rows.uptoBulk, Rows.uptoBulkAll, atW]; omega⟩
theorem attrs_in_bulk (h : DataW.Trod enc Try.prog W base spare held 23 v d p) (hv : ∃ a len cap, v = .slice a len cap) (hl : Light Try.prog 23 d) :
    ∃ L : List Att, Ats W v L ∧ wA L ≤ Rows.uptoBulk d ∧ L.length * 40 ≤ 140737488351232 ∧ ∀ a ∈ L, a.typ.length ≤ 140737488351232 ∧ a.vals.length * 16 ≤ 140737488351232 ∧ ∀ v ∈ a.vals, v.length ≤ 140737488351232 := by
  obtain ⟨C, h1, h2, h3, h4⟩ := recs_in_bulk atcc atcc_len (fun c => Ss W AllE c.2 c.1.vals ∧ c.1.typ.length ≤ 140737488351232 ∧ c.1.vals.length * 16 ≤ 140737488351232 ∧ ∀ v ∈ c.1.vals, v.length ≤ 140737488351232) (fun c => atW c.1) Try.underlying23 (by kernel_rfl) (bts := 40) (by kernel_rfl) attr_each_bulk hv h hl
  refine ⟨C.map (·.1), ⟨C.map fun c => (c.1.typ, c.2), ?_, by simp, fun k r a hr ha => ?_⟩, by show ((C.map (·.1)).map atW).sum ≤ _; rw [List.map_map]; exact h4, by simpa using h3, fun a ha => ?_⟩
  · have e : (C.map fun c => ((c.1.typ, c.2) : AtV)).flatMap atc = C.flatMap atcc := by rw [List.flatMap_map]
    unfold Rc at h1 ⊢
    rw [e, List.length_map]
    exact h1
  · rw [List.getElem?_map] at hr ha
    cases hk : C[k]? with
    | none => rw [hk] at hr; cases hr
    | some c =>
      rw [hk] at hr ha
      injection hr with hr
      injection ha with ha
      subst hr
      subst ha
      exact ⟨rfl, (h2 c (List.mem_of_getElem? hk)).1⟩
  · obtain ⟨c, hc, rfl⟩ := List.mem_map.1 ha
    exact (h2 c hc).2
theorem attrs_cell_bulk {v1 : Value} {z : DataW H × List MemPlace} {n : Nat} (h : DataW.trod enc Try.prog W base spare held n 23 [v1] = some z) (hl : Light Try.prog 23 z.1) : ∃ L : List Att, Ats W v1 L ∧ wA L ≤ Rows.uptoBulk z.1 ∧ L.length * 40 ≤ 140737488351232 ∧ ∀ a ∈ L, a.typ.length ≤ 140737488351232 ∧ a.vals.length * 16 ≤ 140737488351232 ∧ ∀ v ∈ a.vals, v.length ≤ 140737488351232 := by
  obtain ⟨a, l, c, rfl⟩ := slice_val Try.underlying23 h
  exact attrs_in_bulk (v := .slice a l c) (d := z.1) (p := z.2) ⟨n, by simpa [Value.cells] using h⟩ ⟨_, _, _, rfl⟩ hl
theorem entry_each_bulk (cs : List Value) (x : DataW H × List MemPlace) (n : Nat) (h : DataW.trod enc Try.prog W base spare held n 25 cs = some x) (hl : Light Try.prog 25 x.1) :
    ∃ (vd va : Value) (e : Ent), cs = [vd, va] ∧ As W AllE vd e.dn ∧ Ats W va e.ats ∧ EFits e ∧ wE e ≤ Rows.uptoBulk x.1 := by
  obtain ⟨xs, m, _, rfl, hlen, hxl, hfi⟩ := DataW.trod_struct Try.underlying25 h
  have hc : Try.prog.cellsOf 25 = 2 := by kernel_rfl
  match xs, hxl, cs, hlen.trans hc with
  | [y0, y1], _, [v0, v1], _ =>
    have k1 : Try.prog.cellsOf 22 = 1 := by kernel_rfl
    have k2 : Try.prog.cellsOf 23 = 1 := by kernel_rfl
    have g0 : DataW.trod enc Try.prog W base spare held m 22 (([v0, v1].drop 0).take (Try.prog.cellsOf 22)) = some y0 := hfi 0 _ rfl
    rw [k1] at g0
    replace g0 : DataW.trod enc Try.prog W base spare held m 22 [v0] = some y0 := g0
    have g1 : DataW.trod enc Try.prog W base spare held m 23 (([v0, v1].drop 1).take (Try.prog.cellsOf 23)) = some y1 := hfi 1 _ rfl
    rw [k2] at g1
    replace g1 : DataW.trod enc Try.prog W base spare held m 23 [v1] = some y1 := g1
    have l0 := Light.part (j := 0) Try.underlying25 hl rfl rfl
    have l1 := Light.part (j := 1) Try.underlying25 hl rfl rfl
    obtain ⟨D, a1, f1, b1⟩ := avas_cell_bulk g0 l0
    obtain ⟨L, a2, b2, f2, f3⟩ := attrs_cell_bulk g1 l1
    exact ⟨v0, v1, ⟨D, L⟩, rfl, a1, a2, ⟨f1, f2, f3⟩, by show wD D + wA L ≤ _; simp only [List.map_cons, List.map_nil, Rows.uptoBulk, Rows.uptoBulkAll]; omega⟩
theorem entry_in_bulk {r : Reach} {b0 : Nat} (h : DataW.Trod enc Try.prog W base spare held 25 v d p) (hv : Value.okWide Try.prog W r b0 25 v) (hl : Light Try.prog 25 d) :
    ∃ (vd va : Value) (e : Ent), v = .agg #[vd, va] ∧ As W AllE vd e.dn ∧ Ats W va e.ats ∧ EFits e ∧ wE e ≤ Rows.uptoBulk d := by
  obtain ⟨cs, rfl, hsz⟩ := okWide_struct Try.underlying25 hv
  obtain ⟨fuel, hf⟩ := h
  obtain ⟨vd, va, e, h1, h2⟩ := entry_each_bulk _ _ _ hf hl
  have : cs = #[vd, va] := by
    apply Array.toList_inj.1
    simpa [Value.cells] using h1
  exact ⟨vd, va, e, by rw [this], h2⟩
/-- What a law's second form asks, of the arguments one by one. -/
theorem bulk_each {ds : List (DataW H)} (h : Rows.uptoSmall H ds = true) {j : Nat} {x : DataW H} (hx : ds[j]? = some x) : Rows.uptoBulk x ≤ 1048576 := by
  have h1 : Rows.uptoBulkAll ds ≤ 1048576 := of_decide_eq_true h
  have h2 : ∀ (l : List (DataW H)) (y : DataW H), y ∈ l → Rows.uptoBulk y ≤ Rows.uptoBulkAll l := by
    intro l
    induction l with
    | nil => intro y hy; cases hy
    | cons z l ih =>
      intro y hy
      simp only [Rows.uptoBulkAll]
      rcases List.mem_cons.1 hy with hy | hy
      · subst hy; omega
      · have := ih y hy; omega
  exact Nat.le_trans (h2 _ _ (List.mem_of_getElem? hx)) h1
end
end Go.Proofs.Ytacmbomnjedbeaa
