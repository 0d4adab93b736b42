/- level: files with a key from .. to .., files of a level; both sides. -/
import Derived.Test.YtmjkgibeljbloaaLvB
import Derived.WalkArith
namespace Go.Proofs.Ytmjkgibeljbloaa
open Go.RowKit
set_option maxRecDepth 100000

/-- A file has a key from lo to hi. -/
def inR (lo hi : List UInt8) (c : Fl) : Bool := !Op.bytesLess c.last lo && (Op.bytesLess c.first hi || c.first == hi)
def atL (n : Int) (c : Fl) : Bool := decide (c.lev = n)
def inL (n : Int) (lo hi : List UInt8) (c : Fl) : Bool := atL n c && inR lo hi c
theorem filt_step (P : Fl → Bool) (L : List Fl) {k : Nat} (h : k < L.length) : (L.take (k + 1)).filter P = (L.take k).filter P ++ (if P L[k] then [L[k]] else []) := by
  rw [List.take_succ_eq_append_getElem h, List.filter_append]
  congr 1
  rw [List.filter_cons]
  split <;> rfl
theorem filt_len (P : Fl → Bool) (L : List Fl) (k : Nat) : ((L.take k).filter P).length ≤ k := Nat.le_trans (List.length_filter_le _ _) (by rw [List.length_take]; omega)
theorem OwnF.nil (w : World) : OwnF w (.slice none 0 0) [] := OwnR.nil _ _ _ _
theorem fresh_ext {w w3 : World} {s va : Value} (hx : Ext w w3) (h : Fresh w.heap.size s) (n : Next w3.heap.size s va) : Fresh w.heap.size va := n.fresh h hx.size
set_option maxHeartbeats 16000000 in
theorem over_any {w : World} {S : Nat → Prop} {v : Value} {lo hi : List UInt8} {L : List Fl} (h : Fs w S v L) (hf : L.length * 56 ≤ 140737488351232) :
    Calls Try.prog 34 #[v, sv lo, sv hi] w fun e w' => ∃ v', e = .returned v' ∧ OwnF w' v' (L.filter (inR lo hi)) ∧ Fresh w.heap.size v' ∧ Ext w w' := by
  obtain ⟨A, c, rfl, h1, h2, h3, h4⟩ := h.open_ fic_len
  clear h
  obtain ⟨Q, hQ⟩ : ∃ Q, Q = inR lo hi := ⟨_, rfl⟩
  have hQQ : ∀ x, Q x = inR lo hi x := fun x => by rw [hQ]
  replace hQ := Lib.hid (show L.filter (inR lo hi) = L.filter Q by rw [hQ])
  have hB : Ext w w := Mod.refl _ _
  go_enter Try.func34, Try.ntmps34
  go_wp2_with fail
  go_loopw [7, 12] (fun s i wr => ∃ (k : Nat), k ≤ L.length ∧ i = .int .i64 k ∧ OwnF wr s ((L.take k).filter Q) ∧ Fresh w.heap.size s ∧ Ext w wr) (fun _ i _ => L.length - (intOf i).toNat)
  case atStart => exact ⟨0, Nat.zero_le _, rfl, OwnF.nil _, fresh_nil _ _ _, Mod.refl _ _⟩
  case round =>
    obtain ⟨k, hk, rfl, ho, hfr, hx⟩ := hrel
    by_cases hlt : k < L.length
    case neg =>
      have hbl : decide ((k : Int) < (L.length : Int)) = false := dfalse (by omega)
      have hE : Hid (L.take k = L) := Lib.hid (List.take_of_length_le (by omega))
      go_wp2_with fail
      go_ret
      exact ⟨_, rfl, by rw [hE.out] at ho; rw [hQ.out]; exact ho, hfr.mono hB.size, ext_trans hB hx⟩
    have hbl : decide ((k : Int) < (L.length : Int)) = true := dtrue (by omega)
    obtain ⟨ad, hA, _, c0, c1, c2, c3, c4⟩ := Fs.at_ (h4.ext hx) hlt
    subst hA
    have hst := filt_step Q L hlt
    have hfl := filt_len Q L k
    have hi0 : (0 : Int) ≤ (k : Int) := by omega
    have hi1 : (k : Int) < (L.length : Int) := by omega
    have hQx := hQQ L[k]
    obtain ⟨M2, hM2⟩ : ∃ M2, M2 = (L.take (k + 1)).filter Q := ⟨_, rfl⟩
    rw [← hM2] at hst
    replace hM2 := Lib.hid hM2
    generalize L[k] = x at *
    generalize (L.take k).filter Q = M at *
    have hn : (M.length + 1) * 56 ≤ 140737488355328 := by omega
    replace hfl := Lib.hid hfl
    have hbx : Ext wr (wr.alloc (.cells (fia x) 48)) := (Mod.refl _ wr).alloc _
    obtain ⟨z0, z1, z2, z3, z4⟩ := boxedF wr x
    obtain ⟨w3, hw3⟩ : ∃ w3, w3 = wr.alloc (.cells (fia x) 48) := ⟨_, rfl⟩
    rw [← hw3] at hbx z0 z1 z2 z3 z4
    have x3 := ext_trans hx hbx
    have o3 := ho.ext hbx
    replace hw3 := Lib.hid hw3
    clear ho hx hbx 
    by_cases hg : Op.bytesLess x.last lo = true
    case pos =>
      have hs2 : Hid (M2 = M) := Lib.hid (by rw [hst, hQx]; simp [atL, inL, inR, hg])
      clear hst hQx
      go_upto_region 5 with fail
      rw [← hw3.out]
      clear hw3 c0 c1 c2 c3 c4
      go_wp2_with fail
      exact ⟨⟨k + 1, by omega, by go_num, by rw [← hM2.out, hs2.out]; exact o3, hfr, x3⟩, by simp [intOf] <;> omega⟩
    have q2 : Op.bytesLess x.last lo = false := by simpa using hg
    by_cases hh : (Op.bytesLess x.first hi || x.first == hi) = true
    case neg =>
      have q3 : (Op.bytesLess x.first hi || x.first == hi) = false := by simpa using hh
      have hs2 : Hid (M2 = M) := Lib.hid (by rw [hst, hQx]; simp only [inL, inR, q3]; simp)
      clear hst hQx
      go_upto_region 5 with fail
      rw [← hw3.out]
      clear hw3 c0 c1 c2 c3 c4
      go_wp2_with fail
      exact ⟨⟨k + 1, by omega, by go_num, by rw [← hM2.out, hs2.out]; exact o3, hfr, x3⟩, by simp [intOf] <;> omega⟩
    have hs2 : Hid (M2 = M ++ [x]) := Lib.hid (by rw [hst, hQx]; simp only [atL, inL, inR, q2, hh]; simp)
    clear hst hQx
    go_upto_region 5 with fail
    rw [← hw3.out]
    clear hw3 c0 c1 c2 c3 c4
    go_wp2_with ((with_reducible show wpList _ _ _ (⟨some 29, _, _, _, _, _⟩ :: _) _ _); refine wp_appR tyF fic_len (x := x) o3 rfl (fic_ok _) hn rfl (.tmp 26) (.tmp 28) rfl rfl rfl ?_; intro va wa ka1 ka2 ka3)
    exact ⟨⟨k + 1, by omega, by go_num, by rw [← hM2.out, hs2.out]; exact ka1, fresh_ext x3 hfr ka3, ext_app0 x3 hfr ka2⟩, by simp [intOf] <;> omega⟩
set_option maxHeartbeats 16000000 in
theorem Over_any {w : World} {S : Nat → Prop} {v : Value} {lo hi : List UInt8} {n nx : Int} {L : List Fl} (h : Fs w S v L) (hf : L.length * 56 ≤ 140737488351232) :
    Calls Try.prog 52 #[.agg #[.int .i64 nx, v], .int .i64 n, sv lo, sv hi] w fun e w' => ∃ v', e = .returned v' ∧ OwnF w' v' (L.filter (inL n lo hi)) ∧ Fresh w.heap.size v' ∧ Ext w w' := by
  have hshape := h.shape
  obtain ⟨A, c, rfl⟩ := hshape
  have B0 : Blk (w.alloc (.cells #[.int .i64 nx, .slice A L.length c] 24)) w.heap.size 24 #[.int .i64 nx, .slice A L.length c] := Blk.new w _ _
  have hB : Ext w (w.alloc (.cells #[.int .i64 nx, .slice A L.length c] 24)) := (Mod.refl _ w).alloc _
  obtain ⟨w0, hw0⟩ : ∃ w0, w0 = w.alloc (.cells #[.int .i64 nx, .slice A L.length c] 24) := ⟨_, rfl⟩
  rw [← hw0] at B0 hB
  replace hw0 := Lib.hid hw0
  have b1 : w0.cell? ⟨w.heap.size, 1, none⟩ = some (.slice A L.length c) := B0.cell 1
  have hov := over_any (lo := lo) (hi := hi) (h.ext hB) hf
  obtain ⟨Q, hQ⟩ : ∃ Q, Q = atL n := ⟨_, rfl⟩
  have hQQ : ∀ x, Q x = atL n x := fun x => by rw [hQ]
  obtain ⟨L1, hL1⟩ : ∃ L1, L1 = L.filter (inR lo hi) := ⟨_, rfl⟩
  rw [← hL1] at hov
  have hf1 : L1.length * 56 ≤ 140737488351232 := by have := List.length_filter_le (inR lo hi) L; rw [← hL1] at this; omega
  replace hQ := Lib.hid (show L.filter (inL n lo hi) = L1.filter Q by rw [hQ, hL1, List.filter_filter]; rfl)
  replace hL1 := Lib.hid hL1
  clear h hf
  go_enter Try.func52, Try.ntmps52
  go_upto_region 1 with fail
  rw [← hw0.out]
  go_wp2_with fail
  refine hov.mono ?_
  rintro e w1 ⟨v1, rfl, o1, f1, x1⟩
  replace hB := ext_trans hB x1
  obtain ⟨A1, cc1, rfl, h1, h2, h3, h4⟩ := (OwnR.rc o1).open_ fic_len
  clear hov x1 b1 hw0 B0 o1 f1
  go_wp2_with fail
  go_loopw [9, 18] (fun s i wr => ∃ (k : Nat), k ≤ L1.length ∧ i = .int .i64 k ∧ OwnF wr s ((L1.take k).filter Q) ∧ Fresh w1.heap.size s ∧ Ext w1 wr) (fun _ i _ => L1.length - (intOf i).toNat)
  case atStart => exact ⟨0, Nat.zero_le _, rfl, OwnF.nil _, fresh_nil _ _ _, Mod.refl _ _⟩
  case round =>
    obtain ⟨k, hk, rfl, ho, hfr, hx⟩ := hrel
    by_cases hlt : k < L1.length
    case neg =>
      have hbl : decide ((k : Int) < (L1.length : Int)) = false := dfalse (by omega)
      have hE : Hid (L1.take k = L1) := Lib.hid (List.take_of_length_le (by omega))
      go_wp2_with fail
      go_ret
      exact ⟨_, rfl, by rw [hE.out] at ho; rw [hQ.out]; exact ho, hfr.mono hB.size, ext_trans hB hx⟩
    have hbl : decide ((k : Int) < (L1.length : Int)) = true := dtrue (by omega)
    obtain ⟨ad, hA, _, c0, c1, c2, c3, c4⟩ := Fs.at_ (h4.ext hx) hlt
    subst hA
    have hst := filt_step Q L1 hlt
    have hfl := filt_len Q L1 k
    have hi0 : (0 : Int) ≤ (k : Int) := by omega
    have hi1 : (k : Int) < (L1.length : Int) := by omega
    have hQx := hQQ L1[k]
    obtain ⟨M2, hM2⟩ : ∃ M2, M2 = (L1.take (k + 1)).filter Q := ⟨_, rfl⟩
    rw [← hM2] at hst
    replace hM2 := Lib.hid hM2
    generalize L1[k] = x at *
    generalize (L1.take k).filter Q = M at *
    have hn : (M.length + 1) * 56 ≤ 140737488355328 := by omega
    replace hfl := Lib.hid hfl
    have hbx : Ext wr (wr.alloc (.cells (fia x) 48)) := (Mod.refl _ wr).alloc _
    obtain ⟨z0, z1, z2, z3, z4⟩ := boxedF wr x
    obtain ⟨w3, hw3⟩ : ∃ w3, w3 = wr.alloc (.cells (fia x) 48) := ⟨_, rfl⟩
    rw [← hw3] at hbx z0 z1 z2 z3 z4
    have x3 := ext_trans hx hbx
    have o3 := ho.ext hbx
    replace hw3 := Lib.hid hw3
    clear ho hx hbx 
    by_cases hl : x.lev = n
    case neg =>
      have q1 : (x.lev == n) = false := by rw [beq_eq_false_iff_ne]; exact hl
      have hs2 : Hid (M2 = M) := Lib.hid (by rw [hst, hQx]; simp [atL, inL, hl])
      clear hst hQx
      go_upto_region 5 with fail
      rw [← hw3.out]
      clear hw3 c0 c1 c2 c3 c4
      go_wp2_with fail
      exact ⟨⟨k + 1, by omega, by go_num, by rw [← hM2.out, hs2.out]; exact o3, hfr, x3⟩, by simp [intOf] <;> omega⟩
    have q1 : (x.lev == n) = true := by rw [beq_iff_eq]; exact hl
    replace hl := Lib.hid hl
    have hs2 : Hid (M2 = M ++ [x]) := Lib.hid (by rw [hst, hQx]; simp only [atL, inL, inR, hl.out]; simp)
    clear hst hQx
    go_upto_region 5 with fail
    rw [← hw3.out]
    clear hw3 c0 c1 c2 c3 c4
    go_wp2_with ((with_reducible show wpList _ _ _ (⟨some 29, _, _, _, _, _⟩ :: _) _ _); refine wp_appR tyF fic_len (x := x) o3 rfl (fic_ok _) hn rfl (.tmp 26) (.tmp 28) rfl rfl rfl ?_; intro va wa ka1 ka2 ka3)
    exact ⟨⟨k + 1, by omega, by go_num, by rw [← hM2.out, hs2.out]; exact ka1, fresh_ext x3 hfr ka3, ext_app0 x3 hfr ka2⟩, by simp [intOf] <;> omega⟩
set_option maxHeartbeats 16000000 in
theorem rOver_any {w : World} {S : Nat → Prop} {v : Value} {lo hi : List UInt8} {n nx : Int} {L : List Fl} (h : Fs w S v L) (hf : L.length * 56 ≤ 140737488351232) :
    Calls Try.prog 24 #[.agg #[.int .i64 nx, v], .int .i64 n, sv lo, sv hi] w fun e w' => ∃ v', e = .returned v' ∧ OwnF w' v' (L.filter (inL n lo hi)) ∧ Fresh w.heap.size v' ∧ Ext w w' := by
  have hshape := h.shape
  obtain ⟨A, c, rfl⟩ := hshape
  have B0 : Blk (w.alloc (.cells #[.int .i64 nx, .slice A L.length c] 24)) w.heap.size 24 #[.int .i64 nx, .slice A L.length c] := Blk.new w _ _
  have hB : Ext w (w.alloc (.cells #[.int .i64 nx, .slice A L.length c] 24)) := (Mod.refl _ w).alloc _
  obtain ⟨w0, hw0⟩ : ∃ w0, w0 = w.alloc (.cells #[.int .i64 nx, .slice A L.length c] 24) := ⟨_, rfl⟩
  rw [← hw0] at B0 hB
  replace hw0 := Lib.hid hw0
  have b1 : w0.cell? ⟨w.heap.size, 1, none⟩ = some (.slice A L.length c) := B0.cell 1
  obtain ⟨_, _, he, h1, h2, h3, h4⟩ := (h.ext hB).open_ fic_len
  injection he with he1 _ he3
  subst he1; subst he3
  clear h
  obtain ⟨Q, hQ⟩ : ∃ Q, Q = inL n lo hi := ⟨_, rfl⟩
  have hQQ : ∀ x, Q x = inL n lo hi x := fun x => by rw [hQ]
  replace hQ := Lib.hid (show L.filter (inL n lo hi) = L.filter Q by rw [hQ])
  go_enter Try.func24, Try.ntmps24
  go_upto_region 1 with fail
  rw [← hw0.out]
  clear hw0
  go_wp2_with fail
  go_loopw [9, 10] (fun s i wr => ∃ (k : Nat), k ≤ L.length ∧ i = .int .i64 k ∧ OwnF wr s ((L.take k).filter Q) ∧ Fresh w0.heap.size s ∧ Ext w0 wr) (fun _ i _ => L.length - (intOf i).toNat)
  case atStart => exact ⟨0, Nat.zero_le _, rfl, OwnF.nil _, fresh_nil _ _ _, Mod.refl _ _⟩
  case round =>
    obtain ⟨k, hk, rfl, ho, hfr, hx⟩ := hrel
    have b1 : wr.cell? ⟨w.heap.size, 1, none⟩ = some (.slice _ L.length _) := ext_cell hx b1
    by_cases hlt : k < L.length
    case neg =>
      have hbl : decide ((k : Int) < (L.length : Int)) = false := dfalse (by omega)
      have hE : Hid (L.take k = L) := Lib.hid (List.take_of_length_le (by omega))
      go_wp2_with fail
      go_ret
      exact ⟨_, rfl, by rw [hE.out] at ho; rw [hQ.out]; exact ho, hfr.mono hB.size, ext_trans hB hx⟩
    have hbl : decide ((k : Int) < (L.length : Int)) = true := dtrue (by omega)
    obtain ⟨ad, hA, _, c0, c1, c2, c3, c4⟩ := Fs.at_ (h4.ext hx) hlt
    subst hA
    have hst := filt_step Q L hlt
    have hfl := filt_len Q L k
    have hi0 : (0 : Int) ≤ (k : Int) := by omega
    have hi1 : (k : Int) < (L.length : Int) := by omega
    have hQx := hQQ L[k]
    obtain ⟨M2, hM2⟩ : ∃ M2, M2 = (L.take (k + 1)).filter Q := ⟨_, rfl⟩
    rw [← hM2] at hst
    replace hM2 := Lib.hid hM2
    generalize L[k] = x at *
    generalize (L.take k).filter Q = M at *
    have hn : (M.length + 1) * 56 ≤ 140737488355328 := by omega
    replace hfl := Lib.hid hfl
    have hbx : Ext wr (wr.alloc (.cells (fia x) 48)) := (Mod.refl _ wr).alloc _
    obtain ⟨z0, z1, z2, z3, z4⟩ := boxedF wr x
    obtain ⟨w3, hw3⟩ : ∃ w3, w3 = wr.alloc (.cells (fia x) 48) := ⟨_, rfl⟩
    rw [← hw3] at hbx z0 z1 z2 z3 z4
    have x3 := ext_trans hx hbx
    have o3 := ho.ext hbx
    replace hw3 := Lib.hid hw3
    clear ho hx hbx 
    by_cases hl : x.lev = n
    case neg =>
      have q1 : (x.lev == n) = false := by rw [beq_eq_false_iff_ne]; exact hl
      have hs2 : Hid (M2 = M) := Lib.hid (by rw [hst, hQx]; simp [atL, inL, hl])
      clear hst hQx
      go_upto_region 6 with fail
      rw [← hw3.out]
      clear hw3 c0 c1 c2 c3 c4
      go_wp2_with fail
      exact ⟨⟨k + 1, by omega, by go_num, by rw [← hM2.out, hs2.out]; exact o3, hfr, x3⟩, by simp [intOf] <;> omega⟩
    have q1 : (x.lev == n) = true := by rw [beq_iff_eq]; exact hl
    replace hl := Lib.hid hl
    by_cases hg : Op.bytesLess x.last lo = true
    case pos =>
      have hs2 : Hid (M2 = M) := Lib.hid (by rw [hst, hQx]; simp [atL, inL, inR, hg])
      clear hst hQx
      go_upto_region 6 with fail
      rw [← hw3.out]
      clear hw3 c0 c1 c2 c3 c4
      go_wp2_with fail
      exact ⟨⟨k + 1, by omega, by go_num, by rw [← hM2.out, hs2.out]; exact o3, hfr, x3⟩, by simp [intOf] <;> omega⟩
    have q2 : Op.bytesLess x.last lo = false := by simpa using hg
    by_cases hh : (Op.bytesLess x.first hi || x.first == hi) = true
    case neg =>
      have q3 : (Op.bytesLess x.first hi || x.first == hi) = false := by simpa using hh
      have hs2 : Hid (M2 = M) := Lib.hid (by rw [hst, hQx]; simp only [inL, inR, q3]; simp)
      clear hst hQx
      go_upto_region 6 with fail
      rw [← hw3.out]
      clear hw3 c0 c1 c2 c3 c4
      go_wp2_with fail
      exact ⟨⟨k + 1, by omega, by go_num, by rw [← hM2.out, hs2.out]; exact o3, hfr, x3⟩, by simp [intOf] <;> omega⟩
    have hs2 : Hid (M2 = M ++ [x]) := Lib.hid (by rw [hst, hQx]; simp only [atL, inL, inR, hl.out, q2, hh]; simp)
    clear hst hQx
    go_upto_region 6 with fail
    rw [← hw3.out]
    clear hw3 c0 c1 c2 c3 c4
    go_wp2_with ((with_reducible show wpList _ _ _ (⟨some 43, _, _, _, _, _⟩ :: _) _ _); refine wp_appR tyF fic_len (x := x) o3 rfl (fic_ok _) hn rfl (.tmp 40) (.tmp 42) rfl rfl rfl ?_; intro va wa ka1 ka2 ka3)
    exact ⟨⟨k + 1, by omega, by go_num, by rw [← hM2.out, hs2.out]; exact ka1, fresh_ext x3 hfr ka3, ext_app0 x3 hfr ka2⟩, by simp [intOf] <;> omega⟩
set_option maxHeartbeats 16000000 in
theorem rat_any {w : World} {S : Nat → Prop} {v : Value} {n nx : Int} {L : List Fl} (h : Fs w S v L) (hf : L.length * 56 ≤ 140737488351232) :
    Calls Try.prog 36 #[.agg #[.int .i64 nx, v], .int .i64 n] w fun e w' => ∃ v', e = .returned v' ∧ OwnF w' v' (L.filter (atL n)) ∧ Fresh w.heap.size v' ∧ Ext w w' := by
  have hshape := h.shape
  obtain ⟨A, c, rfl⟩ := hshape
  have B0 : Blk (w.alloc (.cells #[.int .i64 nx, .slice A L.length c] 24)) w.heap.size 24 #[.int .i64 nx, .slice A L.length c] := Blk.new w _ _
  have hB : Ext w (w.alloc (.cells #[.int .i64 nx, .slice A L.length c] 24)) := (Mod.refl _ w).alloc _
  obtain ⟨w0, hw0⟩ : ∃ w0, w0 = w.alloc (.cells #[.int .i64 nx, .slice A L.length c] 24) := ⟨_, rfl⟩
  rw [← hw0] at B0 hB
  replace hw0 := Lib.hid hw0
  have b1 : w0.cell? ⟨w.heap.size, 1, none⟩ = some (.slice A L.length c) := B0.cell 1
  obtain ⟨_, _, he, h1, h2, h3, h4⟩ := (h.ext hB).open_ fic_len
  injection he with he1 _ he3
  subst he1; subst he3
  clear h
  obtain ⟨Q, hQ⟩ : ∃ Q, Q = atL n := ⟨_, rfl⟩
  have hQQ : ∀ x, Q x = atL n x := fun x => by rw [hQ]
  replace hQ := Lib.hid (show L.filter (atL n) = L.filter Q by rw [hQ])
  go_enter Try.func36, Try.ntmps36
  go_upto_region 1 with fail
  rw [← hw0.out]
  clear hw0
  go_wp2_with fail
  go_loopw [5, 6] (fun s i wr => ∃ (k : Nat), k ≤ L.length ∧ i = .int .i64 k ∧ OwnF wr s ((L.take k).filter Q) ∧ Fresh w0.heap.size s ∧ Ext w0 wr) (fun _ i _ => L.length - (intOf i).toNat)
  case atStart => exact ⟨0, Nat.zero_le _, rfl, OwnF.nil _, fresh_nil _ _ _, Mod.refl _ _⟩
  case round =>
    obtain ⟨k, hk, rfl, ho, hfr, hx⟩ := hrel
    have b1 : wr.cell? ⟨w.heap.size, 1, none⟩ = some (.slice _ L.length _) := ext_cell hx b1
    by_cases hlt : k < L.length
    case neg =>
      have hbl : decide ((k : Int) < (L.length : Int)) = false := dfalse (by omega)
      have hE : Hid (L.take k = L) := Lib.hid (List.take_of_length_le (by omega))
      go_wp2_with fail
      go_ret
      exact ⟨_, rfl, by rw [hE.out] at ho; rw [hQ.out]; exact ho, hfr.mono hB.size, ext_trans hB hx⟩
    have hbl : decide ((k : Int) < (L.length : Int)) = true := dtrue (by omega)
    obtain ⟨ad, hA, _, c0, c1, c2, c3, c4⟩ := Fs.at_ (h4.ext hx) hlt
    subst hA
    have hst := filt_step Q L hlt
    have hfl := filt_len Q L k
    have hi0 : (0 : Int) ≤ (k : Int) := by omega
    have hi1 : (k : Int) < (L.length : Int) := by omega
    have hQx := hQQ L[k]
    obtain ⟨M2, hM2⟩ : ∃ M2, M2 = (L.take (k + 1)).filter Q := ⟨_, rfl⟩
    rw [← hM2] at hst
    replace hM2 := Lib.hid hM2
    generalize L[k] = x at *
    generalize (L.take k).filter Q = M at *
    have hn : (M.length + 1) * 56 ≤ 140737488355328 := by omega
    replace hfl := Lib.hid hfl
    by_cases hl : x.lev = n
    case neg =>
      have q1 : (x.lev == n) = false := by rw [beq_eq_false_iff_ne]; exact hl
      have hs2 : Hid (M2 = M) := Lib.hid (by rw [hst, hQx]; simp [atL, inL, hl])
      clear hst hQx
      go_wp2_with fail
      exact ⟨⟨k + 1, by omega, by go_num, by rw [← hM2.out, hs2.out]; exact ho, hfr, hx⟩, by simp [intOf] <;> omega⟩
    have q1 : (x.lev == n) = true := by rw [beq_iff_eq]; exact hl
    replace hl := Lib.hid hl
    have hs2 : Hid (M2 = M ++ [x]) := Lib.hid (by rw [hst, hQx]; simp only [atL, inL, inR, hl.out]; simp)
    clear hst hQx
    go_wp2_with ((with_reducible show wpList _ _ _ (⟨some 29, _, _, _, _, _⟩ :: _) _ _); refine wp_appR tyF fic_len (x := x) ho rfl (fic_ok _) hn rfl (.tmp 22) (.tmp 28) rfl rfl rfl ?_; intro va wa ka1 ka2 ka3)
    exact ⟨⟨k + 1, by omega, by go_num, by rw [← hM2.out, hs2.out]; exact ka1, fresh_ext hx hfr ka3, ext_app0 hx hfr ka2⟩, by simp [intOf] <;> omega⟩
end Go.Proofs.Ytmjkgibeljbloaa
