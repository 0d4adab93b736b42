/- dnkey: escape, Key. -/
import Derived.Test.YtacmbomnjedbeaaDnE
import Derived.Test.YtacmbomnjedbeaaAppS
import Derived.Test.YtacmbomnjedbeaaDnG
namespace Go.Proofs.Ytacmbomnjedbeaa
open Go.RowKit
set_option maxRecDepth 100000

/-- A text without bare noughts. -/
def escB (s : List UInt8) : List UInt8 := s.flatMap fun b => if b = 0 then [0, 255] else [b]
theorem escB_snoc (s : List UInt8) {k : Nat} (h : k < s.length) : escB (s.take (k + 1)) = escB (s.take k) ++ (if s[k] = 0 then [0, 255] else [s[k]]) := by
  unfold escB
  rw [List.take_succ_eq_append_getElem h, List.flatMap_append]
  simp
theorem escB_len (s : List UInt8) : (escB s).length ≤ 2 * s.length := by
  unfold escB
  induction s with
  | nil => simp
  | cons b s ih => rw [List.flatMap_cons, List.length_append, List.length_cons]; have : (if b = 0 then [0, 255] else [b] : List UInt8).length ≤ 2 := by split <;> simp
                   omega

set_option maxHeartbeats 2000000 in
theorem escape_any {w : World} {v : Value} {l s : List UInt8} (h : Own w 5 v (l.map bv)) (hn : l.length + 2 * s.length ≤ 100000000) :
    Calls Try.prog 39 #[v, sv s] w fun e w' => ∃ v', e = .returned v' ∧ Own w' 5 v' ((l ++ escB s).map bv) ∧ Next w.heap.size v v' ∧ Mod (own v) w w' := by
  have hsz := sv_size s
  go_enter Try.func39, Try.ntmps39
  go_wp2_with fail
  go_loopw [0, 8] (fun vo i wr => ∃ k : Nat, k ≤ s.length ∧ i = .int .i64 k ∧ Own wr 5 vo ((l ++ escB (s.take k)).map bv) ∧ Next w.heap.size v vo ∧ Mod (own v) w wr) (fun _ i _ => s.length - (intOf i).toNat)
  case atStart => exact ⟨0, Nat.zero_le _, rfl, by simpa [escB] using h, Next.refl _ _, Mod.refl _ _⟩
  case round =>
    obtain ⟨k, hk, rfl, p1, p2, p3⟩ := hrel
    by_cases hlt : k < s.length
    · have hbl : decide ((k : Int) < (s.length : Int)) = true := dtrue (by omega)
      obtain ⟨b, hbk⟩ : ∃ b, b = s[k] := ⟨_, rfl⟩
      have hg : ∀ h', (⟨s.toArray⟩ : ByteArray)[k]'h' = b := fun h' => (sv_get s k hlt h').trans hbk.symm
      have hsn := escB_snoc s hlt
      rw [← hbk] at hsn
      replace hbk := Lib.hid hbk
      have hel := escB_len (s.take k)
      rw [List.length_take] at hel
      have hol : (l ++ escB (s.take k)).length + 1 ≤ 140737488355328 := by rw [List.length_append]; omega
      have hol2 : ((l ++ escB (s.take k)) ++ [b]).length + 1 ≤ 140737488355328 := by rw [List.length_append, List.length_append]; simp; omega
      clear hel
      have heq : l ++ escB (s.take (k + 1)) = (l ++ escB (s.take k)) ++ (if b = 0 then [0, 255] else [b]) := by rw [hsn, List.append_assoc]
      clear hsn
      generalize l ++ escB (s.take k) = o at *
      replace heq := Lib.hid heq
      replace hol := Lib.hid hol
      replace hol2 := Lib.hid hol2
      have hx : (b.toNat : Int) = (b.toNat : Int) := rfl
      have hx255 := Lib.hid (show (255 : Int) = ((255 : UInt8).toNat : Int) from rfl)
      by_cases hb0 : b.toNat = 0
      · have hbb : ((b.toNat : Int) == 0) = true := by rw [hb0]; rfl
        have hbz : b = 0 := UInt8.toNat_inj.1 hb0
        replace heq := Lib.hid (heq.out.trans (by rw [if_pos hbz]))
        replace hbz := Lib.hid hbz
        clear hb0
        go_wp2_with (first | ((with_reducible show wpList _ _ _ (⟨some 16, _, _, _, _, _⟩ :: _) _ _); refine wp_app1 tyB p1 hx hol.out rfl (.tmp 11) (.tmp 15) rfl rfl rfl ?_; intro v2 w2 k1 k2 k3) | ((with_reducible show wpList _ _ _ (⟨some 23, _, _, _, _, _⟩ :: _) _ _); refine wp_app1 tyB k1 hx255.out hol2.out rfl (.tmp 21) (.tmp 22) rfl rfl rfl ?_; intro v5 w5 m1 m2 m3))
        refine ⟨⟨k + 1, by omega, by go_num, ?_, (p2.trans k3 p3.size).trans m3 (Nat.le_trans p3.size k2.size), ?_⟩, by simp [intOf] <;> omega⟩
        · rw [heq.out]
          rw [hbz.out, List.append_assoc] at m1
          exact m1
        · have z2 := p3.then_ k2 (fun b hb h => p2.sub hb h)
          exact z2.then_ m2 (fun b hb h => (p2.trans k3 p3.size).sub hb h)
      · have hbb : ((b.toNat : Int) == 0) = false := by rw [beq_eq_false_iff_ne]; omega
        replace heq := Lib.hid (heq.out.trans (by rw [if_neg (fun h => hb0 (by rw [h]; rfl))]))
        clear hb0
        go_wp2_with (first | ((with_reducible show wpList _ _ _ (⟨some 16, _, _, _, _, _⟩ :: _) _ _); refine wp_app1 tyB p1 hx hol.out rfl (.tmp 11) (.tmp 15) rfl rfl rfl ?_; intro v2 w2 k1 k2 k3))
        refine ⟨⟨k + 1, by omega, by go_num, by rw [heq.out]; exact k1, p2.trans k3 p3.size, p3.then_ k2 (fun b hb h => p2.sub hb h)⟩, by simp [intOf] <;> omega⟩
    · have hbl : decide ((k : Int) < (s.length : Int)) = false := dfalse (by omega)
      rw [List.take_of_length_le (by omega)] at p1
      go_wp2_with fail
      go_ret
      exact ⟨_, rfl, p1, p2, p3⟩
end Go.Proofs.Ytacmbomnjedbeaa
namespace Go.Proofs.Ytacmbomnjedbeaa
open Go.RowKit
set_option maxRecDepth 100000

/-- How much a name weighs. -/
def wN (L : List Av) : Nat := (L.map fun a => 1 + a.1.length + a.2.length).sum
theorem wN_cons (a : Av) (L : List Av) : wN (a :: L) = 1 + a.1.length + a.2.length + wN L := by simp [wN]
theorem wN_append (L M : List Av) : wN (L ++ M) = wN L + wN M := by simp [wN]
theorem wN_snoc (L : List Av) {k : Nat} (h : k < L.length) : wN (L.take (k + 1)) = wN (L.take k) + (1 + L[k].1.length + L[k].2.length) := by
  rw [List.take_succ_eq_append_getElem h, wN_append, wN_cons]; rfl
theorem wN_take (L : List Av) (k : Nat) : wN (L.take k) ≤ wN L := by
  have := wN_append (L.take k) (L.drop k)
  rw [List.take_append_drop] at this; omega
theorem wN_drop (L : List Av) (k : Nat) : wN (L.drop k) ≤ wN L := by
  have := wN_append (L.take k) (L.drop k)
  rw [List.take_append_drop] at this; omega
theorem wN_len (L : List Av) : L.length ≤ wN L := by
  induction L with
  | nil => simp
  | cons a L ih => rw [wN_cons, List.length_cons]; omega
theorem wN_mem {L : List Av} {a : Av} (h : a ∈ L) : a.1.length + a.2.length ≤ wN L := by
  induction L with
  | nil => cases h
  | cons b L ih =>
    rw [wN_cons]
    rcases List.mem_cons.1 h with rfl | h
    · omega
    · have := ih h; omega
theorem fits_of {L : List Av} (h : wN L ≤ 1000000000) : Fits L := by
  refine ⟨fun a ha => ?_, by have := wN_len L; omega⟩
  have := wN_mem ha; omega
theorem normV_len (s : List UInt8) : (normV s).length ≤ s.length := by
  unfold normV
  split
  · rename_i h; cases s <;> simp_all
  · exact foldB_len s
theorem norm_wN (L : List Av) : wN (norm L) ≤ wN L := by
  unfold norm
  induction L with
  | nil => simp
  | cons a L ih =>
    rw [List.map_cons, wN_cons, wN_cons]
    have := foldB_len a.1
    have := normV_len a.2
    simp only [normA]; omega
theorem escB_ge (s : List UInt8) : s.length ≤ (escB s).length := by
  unfold escB
  induction s with
  | nil => simp
  | cons b s ih => rw [List.flatMap_cons, List.length_append, List.length_cons]; have : 1 ≤ (if b = 0 then [0, 255] else [b] : List UInt8).length := by split <;> simp
                   omega
/-- A part as a key. -/
def partK (a : Av) : List UInt8 := a.1 ++ [61] ++ escB a.2 ++ [0, 1]
/-- Parts from below as a key. -/
def partsK (L : List Av) : List UInt8 := L.reverse.flatMap partK
/-- A name's key. -/
def keyB (L : List Av) : List UInt8 := partsK (norm L)
theorem partsK_step (L : List Av) {k : Nat} (h : k < L.length) : partsK (L.drop k) = partsK (L.drop (k + 1)) ++ partK L[k] := by
  unfold partsK
  rw [List.drop_eq_getElem_cons h, List.reverse_cons, List.flatMap_append]; simp
theorem partsK_len (L : List Av) : (partsK L).length ≤ 3 * wN L := by
  unfold partsK
  induction L with
  | nil => simp
  | cons a L ih =>
    rw [List.reverse_cons, List.flatMap_append, List.length_append, wN_cons]
    have h2 : ([a].flatMap partK).length = a.1.length + 3 + (escB a.2).length := by simp [partK]; omega
    have := escB_len a.2
    omega

set_option maxHeartbeats 2000000 in
theorem key_any {w : World} {S : Nat → Prop} {v : Value} {L : List Av} (h : As w S v L) (hw : wN L ≤ 100000) :
    Calls Try.prog 20 #[v] w fun e w' => e = .returned (sv (keyB L)) ∧ Ext w w' := by
  have hf : Fits L := fits_of (by omega)
  have hwn := norm_wN L
  go_enter Try.func20, Try.ntmps20
  go_wp2_with fail
  refine (norm_any h hf).mono ?_
  rintro e w1 ⟨v1, rfl, p1, p2, p3⟩
  have hk : keyB L = partsK (norm L) := rfl
  generalize norm L = X at *
  replace hk := Lib.hid hk
  have hX : As w1 (fun b => b < w1.heap.size) v1 X := p1.rc.mono (fun b _ hb => p1.lt hb)
  obtain ⟨A, c, rfl, r1, r2, r3, r4⟩ := hX.open_ avc_len
  have hlX := wN_len X
  have hx1 : (X.length : Int) - 1 < 9223372036854775807 := by omega
  clear p1 p2 hX h
  go_wp2_with fail
  go_loopw [3, 5] (fun vo i wr => ∃ k : Nat, k ≤ X.length ∧ i = .int .i64 ((k : Int) - 1) ∧ Own wr 5 vo ((partsK (X.drop k)).map bv) ∧ Fresh w1.heap.size vo ∧ Ext w1 wr) (fun _ i _ => (intOf i + 1).toNat)
  case atStart => exact ⟨X.length, Nat.le_refl _, rfl, by simpa [partsK] using Own.nil _ _, fresh_nil _ _ _, Mod.refl _ _⟩
  case round =>
    obtain ⟨k, hk2, rfl, q1, q2, q3⟩ := hrel
    by_cases hk0 : k = 0
    · subst hk0
      have hbl : decide ((0 : Int) ≤ ((0 : Nat) : Int) - 1) = false := rfl
      rw [List.drop_zero] at q1
      have hcv := run_conv (P := Try.prog) Try.underlying65 Try.underlying5 Try.underlying9 q1.sl
      go_wp2_with fail
      go_ret
      exact ⟨by rw [hk.out]; rfl, ext_trans p3 q3⟩
    obtain ⟨m, rfl⟩ : ∃ m, k = m + 1 := ⟨k - 1, by omega⟩
    have hm1 : ((m + 1 : Nat) : Int) - 1 = (m : Int) := by omega
    rw [hm1]
    clear hm1 hk0
    have hlt : m < X.length := by omega
    have hbl : decide ((0 : Int) ≤ (m : Int)) = true := dtrue (by omega)
    obtain ⟨ad, hA, hS, c0, c1⟩ := As.at_ (r4.ext q3) hlt
    subst hA
    have hsn := partsK_step X hlt
    have hpl := partsK_len (X.drop m)
    have hwd := wN_drop X m
    rw [hsn] at hpl
    have hS' : (ad.add (m * 2)).block < w1.heap.size := by rw [block_of_add]; exact hS
    generalize X[m] = x at *
    generalize partsK (X.drop (m + 1)) = o at *
    have hpk : (o ++ partK x).length = o.length + x.1.length + 1 + (escB x.2).length + 2 := by simp [partK]; omega
    rw [hpk] at hpl
    have hel : (partK x).length ≤ 300000 := by rw [List.length_append] at hpk; omega
    have hxl := escB_ge x.2
    have hn1 := Lib.hid (show o.length + x.1.length ≤ 140737488355328 by omega)
    have hn2 := Lib.hid (show (o ++ x.1).length + 1 ≤ 140737488355328 by rw [List.length_append]; omega)
    have hn3 := Lib.hid (show (o ++ x.1 ++ [61]).length + 2 * x.2.length ≤ 100000000 by simp only [List.length_append, List.length_singleton]; omega)
    have hn4 := Lib.hid (show (o ++ x.1 ++ [61] ++ escB x.2).length + 2 ≤ 140737488355328 by simp only [List.length_append, List.length_singleton]; omega)
    have hfin : o ++ x.1 ++ [61] ++ escB x.2 ++ [0, 1] = o ++ partK x := by simp [partK]
    replace hfin := Lib.hid hfin
    replace hsn := Lib.hid hsn
    clear hpk hel hxl hpl hwd
    have hx61 := Lib.hid (show (61 : Int) = ((61 : UInt8).toNat : Int) from rfl)
    have hx00 := Lib.hid (show (0 : Int) = ((0 : UInt8).toNat : Int) from rfl)
    have hx01 := Lib.hid (show (1 : Int) = ((1 : UInt8).toNat : Int) from rfl)
    have hc : ∀ wx, Mod (fun b => w1.heap.size ≤ b) wr wx → wx.cell? ⟨(ad.add (m * 2)).block, (ad.add (m * 2)).off + 1, none⟩ = some (sv x.2) :=
      fun wx hm => (hm.cell (lt_of_cell c1) (by show ¬ w1.heap.size ≤ (ad.add (m * 2)).block; omega)).trans c1
    clear hS'
    go_wp2_with (first | ((with_reducible show wpList _ _ _ (⟨some 21, _, _, _, _, _⟩ :: _) _ _); refine wp_appS tyB Try.underlying9 q1 hn1.out rfl (.tmp 15) (.tmp 20) rfl rfl rfl ?_; intro v2 w2 k1 k2 k3; have f2 := k3.fresh q2 q3.size; have m2 : Mod (fun b => w1.heap.size ≤ b) wr w2 := k2.mono (fun b _ h => q2 b h)) | ((with_reducible show wpList _ _ _ (⟨some 24, _, _, _, _, _⟩ :: _) _ _); refine wp_app1 tyB k1 hx61.out hn2.out rfl (.tmp 22) (.tmp 23) rfl rfl rfl ?_; intro v3 w3 g1 g2 g3; have f3 := g3.fresh f2 (Nat.le_trans q3.size m2.size); have m3 := m2.then_ g2 (fun b _ h => f2 b h); have c1w := hc w3 m3))
    refine (escape_any g1 hn3.out).mono ?_
    rintro e w4 ⟨v4, rfl, e1, e2, e3⟩
    have f4 := e2.fresh f3 (Nat.le_trans q3.size m3.size)
    have m4 := m3.then_ e3 (fun b _ h => f3 b h)
    go_wp2_with ((with_reducible show wpList _ _ _ (⟨some 34, _, _, _, _, _⟩ :: _) _ _); refine wp_app2 tyB e1 hx00.out hx01.out hn4.out rfl (.tmp 32) (.tmp 33) rfl rfl rfl ?_; intro v5 w5 t1 t2 t3)
    have f5 := t3.fresh f4 (Nat.le_trans q3.size m4.size)
    have m5 := m4.then_ t2 (fun b _ h => f4 b h)
    refine ⟨⟨m, by omega, by go_num, ?_, f5, ?_⟩, ?_⟩
    · rw [hsn.out, ← hfin.out]; exact t1
    · exact q3.trans m5 (fun _ _ h => h) (fun b hb h => by have : w1.heap.size ≤ b := h; omega)
    · simp [intOf] <;> omega
end Go.Proofs.Ytacmbomnjedbeaa
namespace Go.Proofs.Ytacmbomnjedbeaa
open Go.RowKit
set_option maxRecDepth 100000

theorem key_known : keyB [([99, 110], [65]), ([111], [120])] = [111, 61, 120, 0, 1, 99, 110, 61, 97, 0, 1] := by decide
end Go.Proofs.Ytacmbomnjedbeaa
