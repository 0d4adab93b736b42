/- dnkey: how many parts a key has, counted in the document's way; ranges. -/
import Derived.Test.YtgghjkefbfbopaaDoorKyD
import Derived.Test.YtgghjkefbfbopaaDoorDnPL
import Derived.Test.YtgghjkefbfbopaaDoorRegA
import Derived.Deep.Cut
namespace Go.Proofs.YtgghjkefbfbopaaDoor
open Go.Shelf Go.RowKit
set_option maxRecDepth 100000
/-- Ends counted from the left on. -/
def depD : List UInt8 → Nat
  | [] => 0
  | [_] => 0
  | c :: d :: r => if c = 0 ∧ d = 1 then 1 + depD r else depD (d :: r)
theorem depD_two (c d : UInt8) (r : List UInt8) : depD (c :: d :: r) = if c = 0 ∧ d = 1 then 1 + depD r else depD (d :: r) := by rw [depD]
theorem depD_cons {c : UInt8} {t : List UInt8} (h : ∀ r, c :: t ≠ 0 :: 1 :: r) : depD (c :: t) = depD t := by
  cases t with
  | nil => rfl
  | cons d r => rw [depD_two, if_neg (by rintro ⟨rfl, rfl⟩; exact h r rfl)]
theorem depD_no : ∀ {s : List UInt8}, (∀ y z, s ≠ y ++ [0, 1] ++ z) → depD s = 0
  | [], _ => rfl
  | c :: t, h => by
    rw [depD_cons (fun r e => h [] r e), depD_no (fun y z e => h (c :: y) z (by rw [e]; rfl))]
theorem depD_hit {r : List UInt8} : ∀ {x s : List UInt8}, First s [0, 1] x r → depD s = 1 + depD r
  | [], s, h => by
    rw [h.1]
    show depD (0 :: 1 :: r) = _
    rw [depD_two, if_pos ⟨rfl, rfl⟩]
  | c :: x, s, h => by
    have h1 := h.1
    rw [h1]
    show depD (c :: (x ++ [0, 1] ++ r)) = _
    rw [depD_cons (fun q e => by
      have := h.2 [] q (by rw [h1]; exact e)
      simp at this), depD_hit (x := x) ⟨rfl, fun y z e => by
      have := h.2 (c :: y) z (by rw [h1, List.cons_append, List.cons_append, e]; rfl)
      simp only [List.length_cons] at this
      omega⟩]
theorem count_dep : ∀ (n : Nat) (s : List UInt8), s.length ≤ n → Lib.count s [0, 1] = depD s
  | n, s, hn => by
    rcases cutO_spec s [0, 1] with ⟨_, h⟩ | ⟨x, r, _, h⟩
    · rw [Lib.count_miss (index_no h), depD_no h]
    · have hi := index_first h
      obtain ⟨d1, d2⟩ := first_drop h
      have hl : s.length = x.length + 2 + r.length := by rw [h.1]; simp; omega
      cases n with
      | zero => omega
      | succ n => rw [Lib.count_hit (by simp) hi, d2, count_dep n r (by omega), depD_hit h]
theorem depD_drop {s : List UInt8} {k : Nat} (h : k + 1 < s.length) : depD (s.drop k) = if s[k] = 0 ∧ s[k + 1] = 1 then 1 + depD (s.drop (k + 2)) else depD (s.drop (k + 1)) := by
  rw [List.drop_eq_getElem_cons (by omega : k < s.length), List.drop_eq_getElem_cons h, depD_two]
theorem depD_end {s : List UInt8} {k : Nat} (h : ¬ k + 1 < s.length) : depD (s.drop k) = 0 := by
  have hl : (s.drop k).length ≤ 1 := by rw [List.length_drop]; omega
  match s.drop k, hl with
  | [], _ => rfl
  | [_], _ => rfl
theorem depD_le : ∀ (n : Nat) (s : List UInt8), s.length ≤ n → depD s ≤ s.length
  | _, [], _ => by simp [depD]
  | _, [_], _ => by simp [depD]
  | 0, _ :: _ :: _, h => by simp at h
  | n + 1, c :: d :: r, h => by
    rw [depD_two]
    simp only [List.length_cons] at h ⊢
    split
    · have := depD_le n r (by omega); omega
    · have := depD_le n (d :: r) (by simp only [List.length_cons]; omega)
      simp only [List.length_cons] at this; omega
section
variable {w : World}
set_option maxHeartbeats 4000000 in
theorem rdepth_any (s : List UInt8) (hs : s.length ≤ 1000000) : Calls Tryd.prog 23 #[sv s] w fun e w' => e = .returned (.int .i64 (Lib.count s [0, 1] : Nat)) ∧ w' = w := by
  rw [count_dep _ s (Nat.le_refl _)]
  have hsz := sv_size s
  have hle := depD_le _ s (Nat.le_refl _)
  obtain ⟨D, hD⟩ : ∃ D, D = depD s := ⟨_, rfl⟩
  rw [← hD] at hle ⊢
  replace hD := Lib.hid hD
  go_enter Tryd.func23, Tryd.ntmps23
  go_wp2_with fail
  go_loop [3, 4] (fun n i => ∃ (k m : Nat), k ≤ s.length ∧ i = .int .i64 k ∧ n = .int .i64 m ∧ Hid (D = m + depD (s.drop k)) ∧ m ≤ k) (fun _ i => s.length - (intOf i).toNat)
  case atStart => exact ⟨0, 0, Nat.zero_le _, rfl, rfl, Lib.hid (by rw [hD.out]; simp), by omega⟩
  case round =>
    obtain ⟨k, m, hk, rfl, rfl, hm, hmk⟩ := hrel
    by_cases hlt : k + 1 < s.length
    · have hbl : decide ((k : Int) + 1 < (s.length : Int)) = true := dtrue (by omega)
      have hdr := depD_drop hlt
      obtain ⟨c, hc⟩ : ∃ c, c = s[k] := ⟨_, rfl⟩
      obtain ⟨d, hd⟩ : ∃ d, d = s[k + 1] := ⟨_, rfl⟩
      have hg : ∀ h', (⟨s.toArray⟩ : ByteArray)[k]'h' = c := fun h' => (sv_get s k (by omega) h').trans hc.symm
      have hg2 : ∀ h', (⟨s.toArray⟩ : ByteArray)[k + 1]'h' = d := fun h' => (sv_get s (k + 1) hlt h').trans hd.symm
      rw [← hc, ← hd] at hdr
      clear hc hd
      go_wp2_with fail
      · rename_i a b
        have ec : c = 0 := UInt8.toNat_inj.1 a
        have ed : d = 1 := UInt8.toNat_inj.1 (by have := eq_of_beq b; show d.toNat = 1; omega)
        rw [if_pos ⟨ec, ed⟩] at hdr
        exact ⟨⟨k + 2, m + 1, by omega, by go_num, by go_num, Lib.hid (by rw [hm.out, hdr]; omega), by omega⟩, by simp [intOf] <;> omega⟩
      · rename_i a b
        rw [if_neg (fun e => by rw [e.2] at b; revert b; decide)] at hdr
        exact ⟨⟨k + 1, m, by omega, by go_num, rfl, Lib.hid (by rw [hm.out, hdr]), by omega⟩, by simp [intOf] <;> omega⟩
      · rename_i a
        rw [if_neg (fun e => a (by rw [e.1]; rfl))] at hdr
        exact ⟨⟨k + 1, m, by omega, by go_num, rfl, Lib.hid (by rw [hm.out, hdr]), by omega⟩, by simp [intOf] <;> omega⟩
    · have hbl : decide ((k : Int) + 1 < (s.length : Int)) = false := dfalse (by omega)
      have he := depD_end hlt
      have hfin : Hid (D = m) := Lib.hid (by rw [hm.out, he]; rfl)
      clear he hm hD
      go_wp2_with fail
      go_ret
      rw [hfin.out]
      exact ⟨rfl, rfl⟩
theorem range_any {S : Nat → Prop} {v : Value} {L : List Av} (h : As w S v L) (hw : wN L ≤ 10000) : Calls Tryd.prog 13 #[v] w fun e w' => e = .returned (.tuple #[sv (keyB L), sv (keyB L ++ [255])]) ∧ Ext w w' := by
  have hk := key_any h (by omega)
  have hwn := norm_wN L
  have hkl := partsK_len (norm L)
  have hcd := cat_data (keyB L) [255]
  have hsz := sv_size (keyB L)
  have hlen : (keyB L).length ≤ 30000 := by unfold keyB; omega
  clear hwn hkl hw
  generalize keyB L = key at *
  obtain ⟨A0, c0, rfl⟩ := h.shape
  clear h
  go_enter Tryd.func13, Tryd.ntmps13
  go_wp2_with fail
  refine hk.mono ?_
  rintro e w1 ⟨rfl, x1⟩
  clear hk
  go_wp2_with fail
  go_ret2
  exact ⟨rfl, x1⟩
end
end Go.Proofs.YtgghjkefbfbopaaDoor
namespace Go.Proofs.YtgghjkefbfbopaaDoor
open Go.Shelf Go.RowKit
set_option maxRecDepth 100000
set_option maxHeartbeats 4000000 in
theorem rescape_any {w : World} (s : List UInt8) (hn : s.length ≤ 1000000) :
    Calls Tryd.prog 21 #[sv s] w fun e w' => e = .returned (sv (escB s)) ∧ Ext w w' := by
  have hsz := sv_size s
  go_enter Tryd.func21, Tryd.ntmps21
  go_wp2_with fail
  go_loopw [3, 4] (fun vo i wr => ∃ k : Nat, k ≤ s.length ∧ i = .int .i64 k ∧ Own wr 5 vo (([] ++ escB (s.take k)).map bv) ∧ Next w.heap.size (.slice none 0 0) vo ∧ Mod (own (.slice none 0 0)) w wr) (fun _ i _ => s.length - (intOf i).toNat)
  case atStart => exact ⟨0, Nat.zero_le _, rfl, by simpa [escB] using Own.nil w 5, Next.refl _ _, Mod.refl _ _⟩
  case round =>
    obtain ⟨k, hk, rfl, p1, p2, p3⟩ := hrel
    by_cases hlt : k < s.length
    · have hbl : decide ((k : Int) < (s.length : Int)) = true := dtrue (by omega)
      obtain ⟨b, hbk⟩ : ∃ b, b = s[k] := ⟨_, rfl⟩
      have hg : ∀ h', (⟨s.toArray⟩ : ByteArray)[k]'h' = b := fun h' => (sv_get s k hlt h').trans hbk.symm
      have hsn := escB_snoc s hlt
      rw [← hbk] at hsn
      replace hbk := Lib.hid hbk
      have hel := escB_len (s.take k)
      rw [List.length_take] at hel
      have hol : ([] ++ escB (s.take k)).length + 1 ≤ 140737488355328 := by rw [List.length_append, List.length_nil]; omega
      have hol2 : (([] ++ escB (s.take k)) ++ [b]).length + 1 ≤ 140737488355328 := by rw [List.length_append, List.length_append]; simp; omega
      clear hel
      have heq : [] ++ escB (s.take (k + 1)) = ([] ++ escB (s.take k)) ++ (if b = 0 then [0, 255] else [b]) := by rw [hsn, List.append_assoc]
      clear hsn
      generalize [] ++ escB (s.take k) = o at *
      replace heq := Lib.hid heq
      replace hol := Lib.hid hol
      replace hol2 := Lib.hid hol2
      have hx : (b.toNat : Int) = (b.toNat : Int) := rfl
      have hx255 := Lib.hid (show (255 : Int) = ((255 : UInt8).toNat : Int) from rfl)
      by_cases hb0 : b.toNat = 0
      · have hbb : ((b.toNat : Int) == 0) = true := by rw [hb0]; rfl
        have hbz : b = 0 := UInt8.toNat_inj.1 hb0
        replace heq := Lib.hid (heq.out.trans (by rw [if_pos hbz]))
        replace hbz := Lib.hid hbz
        clear hb0
        go_wp2_with (first | ((with_reducible show wpList _ _ _ (⟨some 16, _, _, _, _, _⟩ :: _) _ _); refine wp_app1 tyB p1 hx hol.out rfl (.tmp 11) (.tmp 15) rfl rfl rfl ?_; intro v2 w2 k1 k2 k3) | ((with_reducible show wpList _ _ _ (⟨some 23, _, _, _, _, _⟩ :: _) _ _); refine wp_app1 tyB k1 hx255.out hol2.out rfl (.tmp 21) (.tmp 22) rfl rfl rfl ?_; intro v5 w5 m1 m2 m3))
        refine ⟨⟨k + 1, by omega, by go_num, ?_, (p2.trans k3 p3.size).trans m3 (Nat.le_trans p3.size k2.size), ?_⟩, by simp [intOf] <;> omega⟩
        · rw [heq.out]
          rw [hbz.out, List.append_assoc] at m1
          exact m1
        · have z2 := p3.then_ k2 (fun b hb h => p2.sub hb h)
          exact z2.then_ m2 (fun b hb h => (p2.trans k3 p3.size).sub hb h)
      · have hbb : ((b.toNat : Int) == 0) = false := by rw [beq_eq_false_iff_ne]; omega
        replace heq := Lib.hid (heq.out.trans (by rw [if_neg (fun h => hb0 (by rw [h]; rfl))]))
        clear hb0
        go_wp2_with (first | ((with_reducible show wpList _ _ _ (⟨some 16, _, _, _, _, _⟩ :: _) _ _); refine wp_app1 tyB p1 hx hol.out rfl (.tmp 11) (.tmp 15) rfl rfl rfl ?_; intro v2 w2 k1 k2 k3))
        refine ⟨⟨k + 1, by omega, by go_num, by rw [heq.out]; exact k1, p2.trans k3 p3.size, p3.then_ k2 (fun b hb h => p2.sub hb h)⟩, by simp [intOf] <;> omega⟩
    · have hbl : decide ((k : Int) < (s.length : Int)) = false := dfalse (by omega)
      rw [List.take_of_length_le (by omega), List.nil_append] at p1
      have hcv := run_conv (P := Tryd.prog) Tryd.underlying46 Tryd.underlying5 Tryd.underlying9 p1.sl
      go_wp2_with fail
      go_ret
      exact ⟨rfl, p3.ext fun k _ h => by simp [own, Value.ownBlock] at h⟩
theorem pescape_any {w : World} (s : List UInt8) (hn : s.length ≤ 1000000) :
    Calls Tryd.prog 20 #[sv s] w fun e w' => e = .returned (sv (escB s)) ∧ Ext w w' := by
  have h := escape_any (w := w) (l := []) (s := s) (Own.nil w 5) (by simp; omega)
  rw [List.nil_append] at h
  go_enter Tryd.func20, Tryd.ntmps20
  go_wp2_with fail
  refine h.mono ?_
  rintro e w1 ⟨v1, rfl, o1, n1, m1⟩
  have hcv := run_conv (P := Tryd.prog) Tryd.underlying46 Tryd.underlying5 Tryd.underlying9 o1.sl
  go_wp2_with fail
  go_ret
  exact ⟨rfl, m1.ext fun k _ h => by simp [own, Value.ownBlock] at h⟩
end Go.Proofs.YtgghjkefbfbopaaDoor
namespace Go.Proofs.YtgghjkefbfbopaaDoor
open Go.Shelf Go.RowKit
set_option maxRecDepth 100000
theorem cat_part (p : List UInt8) (x : Av) : (⟨p.toArray⟩ : ByteArray) ++ ⟨x.1.toArray⟩ ++ ⟨#[61]⟩ ++ ⟨(escB x.2).toArray⟩ ++ ⟨#[0, 1]⟩ = ⟨(p ++ partK x).toArray⟩ := by
  have e1 : (⟨#[61]⟩ : ByteArray) = ⟨[(61 : UInt8)].toArray⟩ := rfl
  have e2 : (⟨#[0, 1]⟩ : ByteArray) = ⟨[(0 : UInt8), 1].toArray⟩ := rfl
  rw [e1, e2, cat_data, cat_data, cat_data, cat_data]
  unfold partK
  simp only [List.append_assoc]
set_option maxHeartbeats 4000000 in
theorem rkey_any {w : World} {v : Value} {L : List Av} (h : As w (fun b => b < w.heap.size) v L) (hw : wN L ≤ 10000) :
    Calls Tryd.prog 18 #[v] w fun e w' => e = .returned (sv (keyB L)) ∧ Ext w w' := by
  have hf : Fits L := fits_of (by omega)
  have hwn := norm_wN L
  have hrn := rnorm_any h hf
  have hkd : keyB L = partsK (norm L) := rfl
  rw [hkd]
  clear hkd
  obtain ⟨X, hX⟩ : ∃ X, X = norm L := ⟨_, rfl⟩
  rw [← hX] at hrn hwn ⊢
  clear hX
  obtain ⟨A0, c0, rfl⟩ := h.shape
  clear h hf
  go_enter Tryd.func18, Tryd.ntmps18
  go_wp2_with fail
  refine hrn.mono ?_
  rintro e w1 ⟨n, rfl, o1, -, x1⟩
  clear hrn
  have hxl := wN_len X
  obtain ⟨A, c, rfl, r1, r2, r3, r4⟩ := (OwnR.rc o1).open_ avc_len
  go_wp2_with fail
  go_loopw [4, 5] (fun s i wr => ∃ k : Nat, k ≤ X.length ∧ i = .int .i64 ((k : Int) - 1) ∧ s = sv (partsK (X.drop k)) ∧ Ext w1 wr) (fun _ i _ => (intOf i + 1).toNat)
  case atStart => exact ⟨X.length, Nat.le_refl _, rfl, by rw [List.drop_length]; rfl, Mod.refl _ _⟩
  case round =>
    obtain ⟨k, hk, rfl, rfl, hx⟩ := hrel
    by_cases hk0 : k = 0
    · subst hk0
      have hbl : decide ((0 : Int) ≤ ((0 : Nat) : Int) - 1) = false := rfl
      rw [List.drop_zero]
      go_wp2_with fail
      go_ret
      exact ⟨rfl, ext_trans x1 hx⟩
    obtain ⟨m, rfl⟩ : ∃ m, k = m + 1 := ⟨k - 1, by omega⟩
    have hm1 : ((m + 1 : Nat) : Int) - 1 = (m : Int) := by omega
    rw [hm1]
    clear hm1 hk0
    have hlt : m < X.length := by omega
    have hbl : decide ((0 : Int) ≤ (m : Int)) = true := dtrue (by omega)
    have hi1 : (m : Int) < (X.length : Int) := by omega
    have hcc : ∀ {wx : World}, Ext w1 wx → ∃ ad, A = some ad ∧ wx.cell? (ad.add (m * 2)) = some (sv X[m].1) ∧ wx.cell? ⟨(ad.add (m * 2)).block, (ad.add (m * 2)).off + 1, none⟩ = some (sv X[m].2) := fun {wx} e => by
      obtain ⟨ad, h1, _, h2, h3⟩ := As.at_ (r4.ext e) hlt
      exact ⟨ad, h1, h2, h3⟩
    obtain ⟨ad, hA, _, _⟩ := hcc hx
    subst hA
    have hcc2 : ∀ {wx : World}, Ext w1 wx → wx.cell? (ad.add (m * 2)) = some (sv X[m].1) ∧ wx.cell? ⟨(ad.add (m * 2)).block, (ad.add (m * 2)).off + 1, none⟩ = some (sv X[m].2) := fun {wx} e => by
      obtain ⟨ad', h1, h2, h3⟩ := hcc e
      injection h1 with h1
      subst h1
      exact ⟨h2, h3⟩
    clear hcc
    have hsn := partsK_step X hlt
    have hmem := wN_mem (List.getElem_mem hlt)
    have hpl := partsK_len (X.drop (m + 1))
    have hwd := wN_drop X (m + 1)
    have hes := escB_len X[m].2
    have hrs := fun wx : World => rescape_any (w := wx) X[m].2 (by omega)
    have hcat := cat_part (partsK (X.drop (m + 1))) X[m]
    rw [← hsn] at hcat
    generalize X[m] = x at *
    obtain ⟨p, hp⟩ : ∃ p, p = partsK (X.drop (m + 1)) := ⟨_, rfl⟩
    rw [← hp] at hcat hpl ⊢
    have hps := sv_size p
    have hx1s := sv_size x.1
    have hess := sv_size (escB x.2)
    have hpb : p.length ≤ 30000 := by omega
    have hxb : x.1.length ≤ 10000 := by omega
    have heb : (escB x.2).length ≤ 20000 := by omega
    clear hp hsn hwd hpl hmem hes
    have s1 : ¬ 9223372036854775807 < p.length + x.1.length := by omega
    have s2 : ¬ 9223372036854775807 < p.length + x.1.length + 1 := by omega
    have s3 : ¬ 9223372036854775807 < p.length + x.1.length + 1 + (escB x.2).length := by omega
    have s4 : ¬ 9223372036854775807 < p.length + x.1.length + 1 + (escB x.2).length + 2 := by omega
    have hgoal : Hid (Value.string ((⟨p.toArray⟩ : ByteArray) ++ ⟨x.1.toArray⟩ ++ ⟨#[61]⟩ ++ ⟨(escB x.2).toArray⟩ ++ ⟨#[0, 1]⟩) = sv (partsK (X.drop m))) := Lib.hid (by rw [hcat])
    clear hcat
    go_upto_region 6 with fail
    have q0 : Ext w1 wr.drew := hx.drew
    have z0 := hcc2 q0
    go_region_held3 (fun wx => wx.cell? (ad.add (m * 2)) = some (sv x.1) ∧ wx.cell? ⟨(ad.add (m * 2)).block, (ad.add (m * 2)).off + 1, none⟩ = some (sv x.2)) (first | exact z0 | exact z1)
      (first | (go_at_call 21; refine (hrs _).mono ?_; rintro e w2 ⟨rfl, x2⟩; have q1 := ext_trans q0 x2; have z1 := hcc2 q1))
    go_wp2_with fail
    exact ⟨⟨m, by omega, rfl, hgoal.out, q1⟩, by simp [intOf] <;> omega⟩
theorem rrange_any {w : World} {v : Value} {L : List Av} (h : As w (fun b => b < w.heap.size) v L) (hw : wN L ≤ 10000) : Calls Tryd.prog 14 #[v] w fun e w' => e = .returned (.tuple #[sv (keyB L), sv (keyB L ++ [255])]) ∧ Ext w w' := by
  have hk := rkey_any h (by omega)
  have hwn := norm_wN L
  have hkl := partsK_len (norm L)
  have hcd := cat_data (keyB L) [255]
  have hsz := sv_size (keyB L)
  have hlen : (keyB L).length ≤ 30000 := by unfold keyB; omega
  clear hwn hkl hw
  generalize keyB L = key at *
  obtain ⟨A0, c0, rfl⟩ := h.shape
  clear h
  go_enter Tryd.func14, Tryd.ntmps14
  go_wp2_with fail
  refine hk.mono ?_
  rintro e w1 ⟨rfl, x1⟩
  clear hk
  go_wp2_with fail
  go_ret2
  exact ⟨rfl, x1⟩
end Go.Proofs.YtgghjkefbfbopaaDoor
namespace Go.Proofs.YtgghjkefbfbopaaDoor
open Go.Shelf Go.RowKit
set_option maxRecDepth 100000
theorem cut_is {s : List UInt8} {k : Nat} (h : k < s.length) (hn : (61 : UInt8) ∉ s.take k) (hc : s[k] = 61) : Lib.cut s [61] = (s.take k, s.drop (k + 1), true) := by
  have e : s = s.take k ++ [61] ++ s.drop (k + 1) := by
    rw [List.append_assoc, List.singleton_append, ← hc, ← List.drop_eq_getElem_cons h, List.take_append_drop]
  have hf := first_is (r := s.drop (k + 1)) hn
  rw [← e] at hf
  exact cut_first hf
theorem cut_not {s : List UInt8} (hn : (61 : UInt8) ∉ s) : (Lib.cut s [61]).2.2 = false := by
  rcases cutO_spec s [61] with ⟨h1, _⟩ | ⟨x, r, _, h1⟩
  · exact cut_none h1
  · exact absurd (by rw [h1.1]; simp) hn
theorem no_snoc {s : List UInt8} {k : Nat} (h : k < s.length) (hn : (61 : UInt8) ∉ s.take k) (hc : s[k] ≠ 61) : (61 : UInt8) ∉ s.take (k + 1) := by
  rw [List.take_succ_eq_append_getElem h]
  intro hm
  rcases List.mem_append.1 hm with hm | hm
  · exact hn hm
  · exact hc (List.mem_singleton.1 hm).symm
/-- A part of a key; the zero part where it is none. -/
def partD (s : List UInt8) : Av := if (Lib.cut s [61]).2.2 = true then ((Lib.cut s [61]).1, (Lib.cut s [61]).2.1) else ([], [])
set_option maxHeartbeats 4000000 in
theorem rpart19_any {w : World} (s : List UInt8) (hs : s.length ≤ 1000000) :
    Calls Tryd.prog 34 #[sv s] w fun e w' => e = .returned (.tuple #[.agg #[sv (partD s).1, sv (partD s).2], .bool (Lib.cut s [61]).2.2]) ∧ Ext w w' := by
  have hsz := sv_size s
  go_enter Tryd.func34, Tryd.ntmps34
  go_wp2_with fail
  go_loopw [4] (fun i wr => ∃ k : Nat, k ≤ s.length ∧ i = .int .i64 k ∧ Hid ((61 : UInt8) ∉ s.take k) ∧ wr = w.alloc (.cells #[.string ⟨#[]⟩, .string ⟨#[]⟩] 48)) (fun i _ => s.length - (intOf i).toNat)
  case atStart => exact ⟨0, Nat.zero_le _, rfl, Lib.hid (by simp), rfl⟩
  case round =>
    obtain ⟨k, hk, rfl, hn, rfl⟩ := hrel
    by_cases hlt : k < s.length
    · have hbl : decide ((k : Int) < (s.length : Int)) = true := dtrue (by omega)
      obtain ⟨b, hbk⟩ : ∃ b, b = s[k] := ⟨_, rfl⟩
      have hg : ∀ h', (⟨s.toArray⟩ : ByteArray)[k]'h' = b := fun h' => (sv_get s k hlt h').trans hbk.symm
      by_cases hb : b = 61
      · have hbb : ((b.toNat : Int) == 61) = true := by rw [hb]; rfl
        have hcut := cut_is hlt hn.out (by rw [← hbk]; exact hb)
        clear hb hbk
        replace hcut := Lib.hid hcut
        have hi1 : (k : Int) ≤ (s.length : Int) := by omega
        have hi2 : (k : Int) + 1 ≤ (s.length : Int) := by omega
        have he1 : (⟨s.toArray⟩ : ByteArray).extract 0 k = ⟨(s.take k).toArray⟩ := by rw [ext_sv]; simp
        have he2 : (⟨s.toArray⟩ : ByteArray).extract (k + 1) s.length = ⟨(s.drop (k + 1)).toArray⟩ := by
          rw [ext_sv]
          rw [List.take_of_length_le (by rw [List.length_drop]; omega)]
        have hpd : Hid (partD s = (s.take k, s.drop (k + 1))) := Lib.hid (by unfold partD; rw [hcut.out]; rfl)
        go_wp2_with fail
        go_region
        go_wp2_with fail
        refine bodyPost_ret (results_cell_row2 Tryd.results34 _ _ _ _ _ _ _ rfl (Blk.new w _ _) Tryd.underlying48 rfl (by kernel_rfl)) rfl ?_
        rw [hpd.out, hcut.out]
        exact ⟨rfl, ((Mod.refl _ w).alloc _).drew⟩
      · have hbb : ((b.toNat : Int) == 61) = false := by
          rw [beq_eq_false_iff_ne]
          intro e
          exact hb (UInt8.toNat_inj.1 (by show b.toNat = 61; omega))
        have hn2 := no_snoc hlt hn.out (by rw [← hbk]; exact hb)
        clear hb hbk hn
        replace hn2 := Lib.hid hn2
        go_wp2_with fail
        exact ⟨⟨k + 1, by omega, by go_num, hn2, trivial⟩, by simp [intOf] <;> omega⟩
    · have hbl : decide ((k : Int) < (s.length : Int)) = false := dfalse (by omega)
      have hcut := cut_not (s := s) (by have := hn.out; rwa [List.take_of_length_le (by omega)] at this)
      have hpd : Hid (partD s = ([], [])) := Lib.hid (by unfold partD; rw [hcut]; rfl)
      replace hcut := Lib.hid hcut
      go_wp2_with fail
      refine bodyPost_ret (results_cell_row2 Tryd.results34 _ _ _ _ _ _ _ rfl (Blk.new w _ _) Tryd.underlying48 rfl (by kernel_rfl)) rfl ?_
      rw [hpd.out, hcut.out]
      exact ⟨rfl, (Mod.refl _ w).alloc _⟩
end Go.Proofs.YtgghjkefbfbopaaDoor
namespace Go.Proofs.YtgghjkefbfbopaaDoor
open Go.Shelf Go.RowKit
set_option maxRecDepth 100000
/-- The document's way through the bytes: b the part so far, n the parts, the last one first. -/
def pD : List UInt8 → List UInt8 → List Av → Option (List Av)
  | [], b, n => if b = [] then some n else none
  | [c], b, _ => if c = 0 then none else if b ++ [c] = [] then some [] else none
  | c :: d :: r, b, n =>
    if c = 0 then
      if d = 255 then pD r (b ++ [0]) n
      else if d = 1 then (if (Lib.cut b [61]).2.2 = true then pD r [] (partD b :: n) else none)
      else none
    else pD (d :: r) (b ++ [c]) n
theorem pD_two (c d : UInt8) (r b : List UInt8) (n : List Av) : pD (c :: d :: r) b n = if c = 0 then (if d = 255 then pD r (b ++ [0]) n else if d = 1 then (if (Lib.cut b [61]).2.2 = true then pD r [] (partD b :: n) else none) else none) else pD (d :: r) (b ++ [c]) n := by rw [pD]
theorem pD_one {c : UInt8} (h : c ≠ 0) : ∀ (r b : List UInt8) (n : List Av), pD (c :: r) b n = pD r (b ++ [c]) n
  | [], b, n => by
    unfold pD
    rw [if_neg h, if_neg (by simp), if_neg (by simp)]
  | d :: r, b, n => by rw [pD_two, if_neg h]
theorem pD_plain : ∀ (t : List UInt8) (_ : (0 : UInt8) ∉ t) (r b : List UInt8) (n : List Av), pD (t ++ r) b n = pD r (b ++ t) n
  | [], _, r, b, n => by simp
  | c :: t, h, r, b, n => by
    rw [List.cons_append, pD_one (fun e => h (e ▸ List.mem_cons_self)), pD_plain t (fun hm => h (List.mem_cons_of_mem _ hm))]
    simp
theorem pD_esc : ∀ (v r b : List UInt8) (n : List Av), pD (escB v ++ r) b n = pD r (b ++ v) n
  | [], r, b, n => by simp [escB]
  | c :: v, r, b, n => by
    rw [escB_cons]
    by_cases hc : c = 0
    · subst hc
      rw [if_pos rfl]
      show pD (0 :: 255 :: (escB v ++ r)) b n = _
      rw [pD_two, if_pos rfl, if_pos rfl, pD_esc v]
      simp
    · rw [if_neg hc]
      show pD (c :: (escB v ++ r)) b n = _
      rw [pD_one hc, pD_esc v]
      simp
theorem partD_of {a : Av} (h : (61 : UInt8) ∉ a.1) : (Lib.cut (a.1 ++ [61] ++ a.2) [61]).2.2 = true ∧ partD (a.1 ++ [61] ++ a.2) = a := by
  have e := cut_first (first_is (r := a.2) h)
  refine ⟨by rw [e], ?_⟩
  unfold partD
  rw [e]; rfl
theorem pD_part {a : Av} (h0 : (0 : UInt8) ∉ a.1) (h1 : (61 : UInt8) ∉ a.1) (r : List UInt8) (n : List Av) : pD (partK a ++ r) [] n = pD r [] (a :: n) := by
  have e : partK a ++ r = (a.1 ++ [61]) ++ (escB a.2 ++ (0 :: 1 :: r)) := by unfold partK; simp
  rw [e, pD_plain (a.1 ++ [61]) (by simp only [List.mem_append, List.mem_singleton, not_or]; exact ⟨h0, by decide⟩), pD_esc, pD_two, if_pos rfl, if_neg (by decide), if_pos rfl, List.nil_append]
  obtain ⟨p1, p2⟩ := partD_of h1
  rw [if_pos p1, p2]
theorem pD_key : ∀ (M : List Av) (n : List Av), (∀ a ∈ M, (0 : UInt8) ∉ a.1 ∧ (61 : UInt8) ∉ a.1) → pD (M.flatMap partK) [] n = some (M.reverse ++ n)
  | [], n, _ => by unfold pD; simp
  | a :: M, n, h => by
    rw [List.flatMap_cons, pD_part (h a List.mem_cons_self).1 (h a List.mem_cons_self).2, pD_key M _ (fun b hb => h b (List.mem_cons_of_mem _ hb))]
    simp
/-- Both ways back tell the same. -/
theorem back_same {s : List UInt8} : backB s = (match pD s [] [] with | none => none | some n => if isName n ∧ keyB n = s then some n else none) := by
  have hkey : ∀ {m : List Av}, isName m → pD (keyB m) [] [] = some (norm m) := fun {m} hm => by
    have := pD_key (norm m).reverse [] (norm_clean hm)
    rw [List.reverse_reverse, List.append_nil] at this
    exact this
  cases hp : pD s [] [] with
  | none =>
    cases hb : backB s with
    | none => rfl
    | some m =>
      exfalso
      unfold backB at hb
      split at hb
      · cases hb
      · split at hb
        · rename_i hc
          have := hkey hc.1
          rw [hc.2, hp] at this
          cases this
        · cases hb
  | some n =>
    simp only
    by_cases hc : isName n ∧ keyB n = s
    · rw [if_pos hc]
      have h1 := back_key hc.1
      have h2 := hkey hc.1
      rw [hc.2] at h1 h2
      rw [hp] at h2
      rw [h1, ← Option.some.inj h2]
    · rw [if_neg hc]
      cases hb : backB s with
      | none => rfl
      | some m =>
        exfalso
        unfold backB at hb
        split at hb
        · cases hb
        · split at hb
          · rename_i M _ hd
            have h2 := hkey hd.1
            rw [hd.2, hp] at h2
            have h3 := Option.some.inj h2
            exact hc ⟨by rw [h3]; exact isName_norm hd.1, by rw [h3]; unfold keyB; rw [norm_twice]; exact hd.2⟩
          · cases hb
theorem bs_none {s : List UInt8} (h : pD s [] [] = none) : backB s = none := by rw [back_same, h]
theorem bs_no {s : List UInt8} {n : List Av} (h : pD s [] [] = some n) (h2 : ¬ (isName n ∧ keyB n = s)) : backB s = none := by rw [back_same, h]; exact if_neg h2
theorem bs_yes {s : List UInt8} {n : List Av} (h : pD s [] [] = some n) (h1 : isName n) (h2 : keyB n = s) : backB s = some n := by rw [back_same, h]; exact if_pos ⟨h1, h2⟩
end Go.Proofs.YtgghjkefbfbopaaDoor
namespace Go.Proofs.YtgghjkefbfbopaaDoor
open Go.Shelf Go.RowKit
set_option maxRecDepth 100000
theorem OwnR.lit1 {α : Type} {f : α → List Value} {k : Nat} (hf : ∀ x, (f x).length = k) (w : World) (e : TypeId) (x : α) : OwnR f k (w.alloc (.cells (f x).toArray e)) e (.slice (some ⟨w.heap.size, 0, none⟩) 1 1) [x] :=
  ⟨by simp [hf], .inr ⟨w.heap.size, 1, (f x).toArray, rfl, Nat.zero_le _, heap_alloc_new w _, Nat.le_refl _, by simp [maxLen], by simp [hf], by simp; exact List.take_of_length_le (by simp [hf])⟩⟩
/- THE FIRST RULE THAT FITS -/
theorem pD_nil (b : List UInt8) (n : List Av) : pD [] b n = if b = [] then some n else none := by rw [pD]
theorem pD_last (b : List UInt8) (n : List Av) : pD [0] b n = none := by unfold pD; rw [if_pos rfl]
theorem pD_bad {d : UInt8} (h1 : d ≠ 1) (h2 : d ≠ 255) (r b : List UInt8) (n : List Av) : pD (0 :: d :: r) b n = none := by rw [pD_two, if_pos rfl, if_neg h2, if_neg h1]
theorem pD_mark (r b : List UInt8) (n : List Av) : pD (0 :: 255 :: r) b n = pD r (b ++ [0]) n := by rw [pD_two, if_pos rfl, if_pos rfl]
theorem pD_end (r b : List UInt8) (n : List Av) : pD (0 :: 1 :: r) b n = if (Lib.cut b [61]).2.2 = true then pD r [] (partD b :: n) else none := by rw [pD_two, if_pos rfl, if_neg (by decide), if_pos rfl]
theorem partD_len (b : List UInt8) : (Lib.cut b [61]).2.2 = true → (partD b).1.length + 1 + (partD b).2.length = b.length := fun h => by
  have := cut_lens h
  unfold partD
  rw [if_pos h]
  exact this
set_option maxHeartbeats 4000000 in
theorem rback_any {w : World} (s : List UInt8) (hs : s.length ≤ 5000) :
    Calls Tryd.prog 16 #[sv s] w fun e w' => ∃ v, e = .returned (.tuple #[v, .bool (backB s).isSome]) ∧ OwnA w' v ((backB s).getD []) ∧ Ext w w' := by
  have hsz := sv_size s
  obtain ⟨R, hR⟩ : ∃ R, R = pD s [] [] := ⟨_, rfl⟩
  have hR2 := Lib.hid hR
  have hR0 : Hid (R = pD (s.drop 0) [] []) := Lib.hid hR
  clear hR
  go_enter Tryd.func16, Tryd.ntmps16
  go_wp2_with fail
  go_loopw [4, 5, 6] (fun n b i wr => ∃ (k : Nat) (B : List UInt8) (N : List Av), k ≤ s.length ∧ i = .int .i64 k ∧ Own wr 5 b (B.map bv) ∧ OwnA wr n N ∧ (∀ j, own b j → ¬ own n j) ∧ Fresh w.heap.size b ∧ Fresh w.heap.size n ∧ Hid (R = pD (s.drop k) B N) ∧ wN N + B.length ≤ k ∧ Ext w wr) (fun _ _ i _ => s.length - (intOf i).toNat)
  case atStart => exact ⟨0, [], [], Nat.zero_le _, rfl, Own.nil _ _, OwnR.nil _ _ _ _, fun _ h => by simp [own, Value.ownBlock] at h, fresh_nil _ _ _, fresh_nil _ _ _, hR0, by simp [wN], Mod.refl _ _⟩
  case round =>
    obtain ⟨k, B, N, hk, rfl, ho, hp, hap, hf, hg, hm, hw, hx⟩ := hrel
    obtain ⟨Ab, cb, rfl⟩ := ho.shape
    obtain ⟨An, cn, rfl⟩ := OwnK.shape hp
    rw [List.length_map] at ho hap hf ⊢
    by_cases hlt : k < s.length
    · have hbl : decide ((k : Int) < (s.length : Int)) = true := dtrue (by omega)
      obtain ⟨c, hc⟩ : ∃ c, c = s[k] := ⟨_, rfl⟩
      have hgt : ∀ h', (⟨s.toArray⟩ : ByteArray)[k]'h' = c := fun h' => (sv_get s k hlt h').trans hc.symm
      have hdr : s.drop k = c :: s.drop (k + 1) := by rw [hc]; exact List.drop_eq_getElem_cons hlt
      have hm2 := hm.out
      rw [hdr] at hm2
      clear hm hc hdr
      by_cases hc0 : c = 0
      · have b1 : ((c.toNat : Int) != 0) = false := by rw [hc0]; rfl
        rw [hc0] at hm2
        clear hc0
        by_cases hend : k + 1 = s.length
        · have b2 : ((k : Int) + 1 == (s.length : Int)) = true := by rw [beq_iff_eq]; omega
          rw [List.drop_of_length_le (by omega), pD_last] at hm2
          have hb := Lib.hid (bs_none (hR2.out.symm.trans hm2))
          clear hm2 hend hR2
          go_wp2_with fail
          go_ret2
          rw [hb.out]
          exact ⟨_, rfl, OwnR.nil _ _ _ _, hx⟩
        have b2 : ((k : Int) + 1 == (s.length : Int)) = false := by rw [beq_eq_false_iff_ne]; omega
        have hlt2 : k + 1 < s.length := by omega
        obtain ⟨d, hd⟩ : ∃ d, d = s[k + 1] := ⟨_, rfl⟩
        have hg2 : ∀ h', (⟨s.toArray⟩ : ByteArray)[k + 1]'h' = d := fun h' => (sv_get s (k + 1) hlt2 h').trans hd.symm
        have hdr2 : s.drop (k + 1) = d :: s.drop (k + 2) := by rw [hd]; exact List.drop_eq_getElem_cons hlt2
        rw [hdr2] at hm2
        clear hd hdr2 hend
        by_cases d1 : d = 1
        · have f1 : ((d.toNat : Int) != 1) = false := by rw [d1]; rfl
          have f2 : ((d.toNat : Int) == 255) = false := by rw [d1]; rfl
          rw [d1, pD_end] at hm2
          clear d1
          have hcv := run_conv (P := Tryd.prog) Tryd.underlying46 Tryd.underlying5 Tryd.underlying9 ho.sl
          have hpt := fun wx : World => rpart19_any (w := wx) B (by omega)
          have hpl := partD_len B
          cases hq : (Lib.cut B [61]).2.2 with
          | false =>
            rw [hq] at hm2 hpt
            rw [if_neg (by simp)] at hm2
            have hb := Lib.hid (bs_none (hR2.out.symm.trans hm2))
            clear hm2 hR2 hpl hq
            generalize partD B = a at *
            go_wp2_with fail
            refine (hpt _).mono ?_
            rintro e w2 ⟨rfl, x2⟩
            go_wp2_with fail
            go_ret2
            rw [hb.out]
            exact ⟨_, rfl, OwnR.nil _ _ _ _, ext_trans hx (x2.alloc _)⟩
          | true =>
            rw [hq] at hm2 hpt
            rw [if_pos rfl] at hm2
            have hpl2 := hpl hq
            clear hpl hq
            generalize partD B = a at *
            have hwn : wN (a :: N) + 0 ≤ k + 2 := by rw [wN_cons]; omega
            have hNl : N.length ≤ wN N := wN_len N
            have hn1 := Lib.hid (show ([a].length + N.length) * 32 ≤ 140737488355328 by simp; omega)
            replace hm2 := Lib.hid hm2
            replace hwn := Lib.hid hwn
            clear hNl hpl2
            go_wp2_with fail
            refine (hpt _).mono ?_
            rintro e w2 ⟨rfl, x2⟩
            clear hpt
            have bA : Blk (w2.alloc (.cells #[sv a.1, sv a.2] 48)) w2.heap.size 48 #[sv a.1, sv a.2] := Blk.new _ _ _
            have x3 : Ext wr (w2.alloc (.cells #[sv a.1, sv a.2] 48)) := x2.alloc _
            have hlit : OwnA ((w2.alloc (.cells #[sv a.1, sv a.2] 48)).alloc (.cells #[sv a.1, sv a.2] 48)) (.slice (some ⟨w2.heap.size + 1, 0, none⟩) 1 1) [a] := by
              have h := OwnR.lit1 avc_len (w2.alloc (.cells #[sv a.1, sv a.2] 48)) 48 a
              have e : (w2.alloc (.cells #[sv a.1, sv a.2] 48)).heap.size = w2.heap.size + 1 := by simp
              rw [e] at h
              exact h
            have hrc := OwnR.rc ((OwnR.ext hp x3).alloc (.cells #[sv a.1, sv a.2] 48))
            have x4 : Ext wr ((w2.alloc (.cells #[sv a.1, sv a.2] 48)).alloc (.cells #[sv a.1, sv a.2] 48)) := x3.alloc _
            have hfr : Fresh w.heap.size (.slice (some ⟨w2.heap.size + 1, 0, none⟩) 1 1) := fun j hj => by
              have e : w2.heap.size + 1 = j := Option.some.inj hj
              have := (ext_trans hx x2).size
              omega
            go_wp2_with ((with_reducible show wpList _ _ _ (⟨some 61, _, _, _, _, _⟩ :: _) _ _); refine wp_appRs tyA hlit hrc avc_ok hn1.out rfl (.tmp 59) (.tmp 60) rfl rfl rfl ?_; intro v5 w5 g1 g2 g3)
            exact ⟨⟨k + 2, [], a :: N, by omega, by go_num, Own.nil _ _, g1, fun _ h => by simp [own, Value.ownBlock] at h, fresh_nil _ _ _, g3.fresh hfr (ext_trans hx x4).size, hm2, hwn.out, ext_app0 (ext_trans hx x4) hfr g2⟩, by simp [intOf] <;> omega⟩
        · have f1 : ((d.toNat : Int) != 1) = true := by
            rw [bne_iff_ne]
            intro e
            exact d1 (UInt8.toNat_inj.1 (by show d.toNat = 1; omega))
          by_cases d2 : d = 255
          · have f2 : ((d.toNat : Int) != 255) = false := by rw [d2]; rfl
            have f3 : ((d.toNat : Int) == 255) = true := by rw [d2]; rfl
            rw [d2, pD_mark] at hm2
            replace hm2 := Lib.hid hm2
            have hx0 := Lib.hid (show (0 : Int) = ((0 : UInt8).toNat : Int) from rfl)
            have hol := Lib.hid (show B.length + 1 ≤ 140737488355328 by omega)
            clear d1 d2
            go_wp2_with ((with_reducible show wpList _ _ _ (⟨some 49, _, _, _, _, _⟩ :: _) _ _); refine wp_app1 tyB ho hx0.out hol.out rfl (.tmp 47) (.tmp 48) rfl rfl rfl ?_; intro v2 w2 k1 k2 k3)
            exact ⟨⟨k + 2, B ++ [0], N, by omega, by go_num, k1, hp.mod k2 fun j h1 h2 => hap j h2 h1, fun j h1 h2 => hap j (k3.sub (OwnK.lt hp h2) h1) h2, k3.fresh hf hx.size, hg, hm2, by simp; omega, ext_app0 hx hf k2⟩, by simp [intOf] <;> omega⟩
          · have f2 : ((d.toNat : Int) != 255) = true := by
              rw [bne_iff_ne]
              intro e
              exact d2 (UInt8.toNat_inj.1 (by show d.toNat = 255; omega))
            rw [pD_bad d1 d2] at hm2
            have hb := Lib.hid (bs_none (hR2.out.symm.trans hm2))
            clear hm2 d1 d2 hR2
            go_wp2_with fail
            go_ret2
            rw [hb.out]
            exact ⟨_, rfl, OwnR.nil _ _ _ _, hx⟩
      · have b1 : ((c.toNat : Int) != 0) = true := by
          rw [bne_iff_ne]
          intro e
          exact hc0 (UInt8.toNat_inj.1 (by show c.toNat = 0; omega))
        rw [pD_one hc0] at hm2
        replace hm2 := Lib.hid hm2
        have hx1 : (c.toNat : Int) = (c.toNat : Int) := rfl
        have hol := Lib.hid (show B.length + 1 ≤ 140737488355328 by omega)
        clear hc0
        go_wp2_with ((with_reducible show wpList _ _ _ (⟨some 24, _, _, _, _, _⟩ :: _) _ _); refine wp_app1 tyB ho hx1 hol.out rfl (.tmp 19) (.tmp 23) rfl rfl rfl ?_; intro v2 w2 k1 k2 k3)
        exact ⟨⟨k + 1, B ++ [c], N, by omega, by go_num, k1, hp.mod k2 fun j h1 h2 => hap j h2 h1, fun j h1 h2 => hap j (k3.sub (OwnK.lt hp h2) h1) h2, k3.fresh hf hx.size, hg, hm2, by simp; omega, ext_app0 hx hf k2⟩, by simp [intOf] <;> omega⟩
    · have hbl : decide ((k : Int) < (s.length : Int)) = false := dfalse (by omega)
      have hm2 := hm.out
      rw [List.drop_of_length_le (by omega), pD_nil] at hm2
      clear hm
      by_cases hB : B = []
      · rw [if_pos hB] at hm2
        have byes := bs_yes (hR2.out.symm.trans hm2)
        have bno := bs_no (hR2.out.symm.trans hm2)
        have bl : ¬ 0 < B.length := by rw [hB]; simp
        have bl2 : decide (0 < B.length) = false := dfalse bl
        have hwl : wN N ≤ 5000 := by omega
        have hi := ris_any hp.rc (fits_of (by omega))
        have hky := rkey_any (OwnR.rc hp |>.mono (T := fun b => b < wr.heap.size) fun k hk _ => hk) (by omega)
        clear hm2 hR2 hB
        replace byes := Lib.hid byes
        replace bno := Lib.hid bno
        by_cases hname : isName N
        · rw [decide_eq_true hname] at hi
          by_cases hq : keyB N = s
          · rw [hq] at hky
            have b1 : (s != s) = false := by simp
            have hb := byes.out hname hq
            clear byes bno hq hname
            replace hb := Lib.hid hb
            go_wp2_with fail
            refine hi.mono ?_
            rintro e w2 ⟨rfl, rfl⟩
            go_wp2_with fail
            refine hky.mono ?_
            rintro e w3 ⟨rfl, x3⟩
            go_wp2_with fail
            go_ret2
            rw [hb.out]
            exact ⟨_, rfl, hp.ext x3, ext_trans hx x3⟩
          · have b1 : (keyB N == s) = false := by simpa using hq
            have b2 : (keyB N != s) = true := by simpa using hq
            have hb := bno.out fun h => hq h.2
            clear byes bno hq hname
            replace hb := Lib.hid hb
            go_wp2_with fail
            refine hi.mono ?_
            rintro e w2 ⟨rfl, rfl⟩
            go_wp2_with fail
            refine hky.mono ?_
            rintro e w3 ⟨rfl, x3⟩
            go_wp2_with fail
            go_ret2
            rw [hb.out]
            exact ⟨_, rfl, OwnR.nil _ _ _ _, ext_trans hx x3⟩
        · rw [decide_eq_false hname] at hi
          have hb := bno.out fun h => hname h.1
          clear byes bno hname
          replace hb := Lib.hid hb
          go_wp2_with fail
          refine hi.mono ?_
          rintro e w2 ⟨rfl, rfl⟩
          go_wp2_with fail
          go_ret2
          rw [hb.out]
          exact ⟨_, rfl, OwnR.nil _ _ _ _, hx⟩
      · rw [if_neg hB] at hm2
        have hb := Lib.hid (bs_none (hR2.out.symm.trans hm2))
        have bl : 0 < B.length := List.length_pos_iff.2 hB
        have bl2 : decide (0 < B.length) = true := dtrue bl
        clear hm2 hR2 hB
        go_wp2_with fail
        go_ret2
        rw [hb.out]
        exact ⟨_, rfl, OwnR.nil _ _ _ _, hx⟩
end Go.Proofs.YtgghjkefbfbopaaDoor
namespace Go.Proofs.YtgghjkefbfbopaaDoor
open Go.Shelf Go.RowKit
set_option maxRecDepth 100000
set_option maxHeartbeats 4000000 in
theorem dnkeyKeys_walk {w : World} {v0 : Value} {a : List Av} {s : List UInt8} (h0 : As w (fun _ => True) v0 a) (f0 : Fits a) (hs : s.length ≤ 140737488351232) (hm : Mxl w) :
    Calls Tryd.prog 5 #[v0, sv s] w fun e w' => e = .returned (.bool true) ∧ Ext w w' := by
  obtain ⟨A0, c0, rfl⟩ := h0.shape
  have hh := heavy19_any h0 f0
  have hsz := sv_size s
  go_enter Tryd.func5, Tryd.ntmps5
  go_wp2_with fail
  refine hh.mono ?_
  rintro e w1 ⟨q, rfl, g0, x1⟩
  clear hh
  cases q
  case true =>
    go_wp2_with fail
    go_ret
    exact ⟨rfl, x1⟩
  have hw := g0 rfl
  clear g0
  by_cases hbig : 600 < s.length
  · have hb : decide ((600 : Int) < (s.length : Int)) = true := dtrue (by omega)
    go_wp2_with fail
    go_ret
    exact ⟨rfl, x1⟩
  have hb : decide ((600 : Int) < (s.length : Int)) = false := dfalse (by omega)
  have r1 := range_any (h0.ext x1) (by omega)
  have r2 := fun (wx : World) (x : Ext w wx) => rrange_any (Rc.there h0 x) (by omega)
  have r3 := fun (wx : World) m => back_any (w := wx) s (by omega) m
  have r4 := fun (wx : World) => rback_any (w := wx) s (by omega)
  have r5 := fun (wx : World) (x : Ext w wx) => key_any (h0.ext x) (by omega)
  have r6 := fun (wx : World) (x : Ext w wx) => rkey_any (Rc.there h0 x) (by omega)
  have r7 := fun wx : World => pescape_any (w := wx) s (by omega)
  have r8 := fun wx : World => rescape_any (w := wx) s (by omega)
  have r9 := fun (wx : World) m => depth_any (w := wx) s (by omega) m
  have r0 := fun wx : World => rdepth_any (w := wx) s (by omega)
  have hnl : ((backB s).getD []).length * 32 ≤ 140737488351232 := by
    cases hq : backB s with
    | none => simp
    | some m =>
      have h12 : isName m := by
        unfold backB at hq
        split at hq
        · cases hq
        · split at hq
          · rename_i hd
            rw [← Option.some.inj hq]; exact hd.1
          · cases hq
      have := h12.1
      show m.length * 32 ≤ _
      omega
  have hnm := fun (wx : World) (u v : Value) (S T : Nat → Prop) p q r => names19_any (w := wx) (S := S) (S' := T) (v := u) (v' := v) (L := (backB s).getD []) (M := (backB s).getD []) p q r
  simp only [decide_true] at hnm
  clear hw hbig hs
  generalize keyB a = key at *
  generalize escB s = es at *
  generalize Lib.count s [0, 1] = cn at *
  generalize (backB s).isSome = ok at *
  generalize (backB s).getD [] = M at *
  have t1 : (key == key) = true := by simp
  have t2 : ((key ++ [255]) == (key ++ [255])) = true := by simp
  have t3 : (ok == ok) = true := by simp
  have t4 : (es == es) = true := by simp
  have t5 : ((cn : Int) == (cn : Int)) = true := by simp
  go_wp2_with fail
  refine r1.mono ?_
  rintro e w2 ⟨rfl, x2⟩
  have y2 := ext_trans x1 x2
  clear r1
  have r2' := r2 _ y2
  clear r2
  go_wp2_with fail
  refine r2'.mono ?_
  rintro e w3 ⟨rfl, x3⟩
  have y3 := ext_trans y2 x3
  clear r2'
  have r3' := r3 _ (hm.ext y3)
  clear r3
  go_wp2_with fail
  refine r3'.mono ?_
  rintro e w4 ⟨m, rfl, o4, x4⟩
  have y4 := ext_trans y3 x4
  clear r3'
  go_wp2_with fail
  refine (r4 _).mono ?_
  rintro e w5 ⟨n, rfl, o5, x5⟩
  have y5 := ext_trans y4 x5
  clear r4
  have r5' := r5 _ y5
  clear r5
  go_wp2_with fail
  refine r5'.mono ?_
  rintro e w6 ⟨rfl, x6⟩
  have y6 := ext_trans y5 x6
  clear r5'
  have r6' := r6 _ y6
  clear r6
  go_wp2_with fail
  refine r6'.mono ?_
  rintro e w7 ⟨rfl, x7⟩
  have y7 := ext_trans y6 x7
  clear r6'
  have o4' := ((OwnR.ext o4 x5).ext x6).ext x7
  have o5' := (OwnR.ext o5 x6).ext x7
  have hn1 := hnm w7 m n _ _ (OwnR.rc o4') (OwnR.rc o5') hnl
  clear hnm
  go_wp2_with fail
  refine hn1.mono ?_
  rintro e w8 ⟨rfl, x8⟩
  have y8 := ext_trans y7 x8
  clear hn1
  go_wp2_with fail
  refine (r7 _).mono ?_
  rintro e w9 ⟨rfl, x9⟩
  have y9 := ext_trans y8 x9
  clear r7
  go_wp2_with fail
  refine (r8 _).mono ?_
  rintro e wa ⟨rfl, xa⟩
  have ya := ext_trans y9 xa
  clear r8
  have r9' := r9 _ (hm.ext ya)
  clear r9
  go_wp2_with fail
  refine r9'.mono ?_
  rintro e wb ⟨rfl, rfl⟩
  clear r9'
  go_wp2_with fail
  refine (r0 _).mono ?_
  rintro e wc ⟨rfl, rfl⟩
  clear r0
  go_wp2_with fail
  refine (known19_any).mono ?_
  rintro e wd ⟨rfl, xd⟩
  go_wp2_with fail
  go_ret
  exact ⟨rfl, ext_trans ya xd⟩
end Go.Proofs.YtgghjkefbfbopaaDoor
