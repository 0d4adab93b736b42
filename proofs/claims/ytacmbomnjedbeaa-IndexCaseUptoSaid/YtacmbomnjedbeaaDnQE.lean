/- dn: the document's reader: part, Parse. -/
import Derived.Test.YtacmbomnjedbeaaDnQD
namespace Go.Proofs.Ytacmbomnjedbeaa
open Go.RowKit
set_option maxRecDepth 100000

theorem while_same {p q : UInt8 → Bool} (hpq : ∀ b, p b = true → q b = true) (m : List UInt8) : (m.takeWhile p = m.takeWhile q ∧ m.dropWhile p = m.dropWhile q) ∨ ∃ c r, m.dropWhile p = c :: r ∧ q c = true ∧ p c = false := by
  induction m with
  | nil => exact .inl ⟨rfl, rfl⟩
  | cons b m ih =>
    by_cases hp : p b = true
    · have hq := hpq b hp
      rw [List.takeWhile_cons, if_pos hp, List.dropWhile_cons, if_pos hp, List.takeWhile_cons, if_pos hq, List.dropWhile_cons, if_pos hq]
      rcases ih with ⟨h1, h2⟩ | h
      · exact .inl ⟨by rw [h1], h2⟩
      · exact .inr h
    · by_cases hq : q b = true
      · exact .inr ⟨b, m, by rw [List.dropWhile_cons, if_neg hp], hq, by simpa using hp⟩
      · rw [List.takeWhile_cons, if_neg hp, List.dropWhile_cons, if_neg hp, List.takeWhile_cons, if_neg hq, List.dropWhile_cons, if_neg hq]
        exact .inl ⟨rfl, rfl⟩
theorem typ_q (b : UInt8) (h : typP b = true) : typQ b = true := by
  have h1 : typN b.toNat := of_decide_eq_true h
  unfold typQ
  by_cases h32 : b = 32
  · rw [h32] at h1; exact absurd (show typN 32 from h1) (by decide)
  · by_cases h61 : b = 61
    · rw [h61] at h1; exact absurd (show typN 61 from h1) (by decide)
    · rw [decide_eq_false h32, decide_eq_false h61]; rfl
def partQ (l : List UInt8) : Option ((List UInt8 × List UInt8) × List UInt8) :=
  if isTyp ((skipB l).takeWhile typQ) then
    match skipB ((skipB l).dropWhile typQ) with
    | 61 :: l3 => (valueB l3).bind fun p => if p.1 = [] then none else some (((skipB l).takeWhile typQ, p.1), p.2)
    | _ => none
  else none
theorem in_q {m : List UInt8} {c : UInt8} {r : List UInt8} (hd : m.dropWhile typP = c :: r) (hc : typQ c = true) : c ∈ m.takeWhile typQ := by
  induction m with
  | nil => simp at hd
  | cons b m ih =>
    by_cases hp : typP b = true
    · rw [List.dropWhile_cons, if_pos hp] at hd
      rw [List.takeWhile_cons, if_pos (typ_q b hp)]
      exact List.mem_cons_of_mem _ (ih hd)
    · rw [List.dropWhile_cons, if_neg hp] at hd
      injection hd with h1 _
      rw [h1, List.takeWhile_cons, if_pos hc]
      exact List.mem_cons_self ..
theorem typ_none {m : List UInt8} {c : UInt8} {r : List UInt8} (hd : m.dropWhile typP = c :: r) (hc : typQ c = true) (hc2 : typP c = false) : ¬ isTyp (m.takeWhile typQ) := by
  intro ⟨_, _, _, h⟩
  have := h c (in_q hd hc)
  rw [typP, decide_eq_true this] at hc2
  cases hc2
theorem part_eq (l : List UInt8) : partR l = partQ l := by
  unfold partR partQ
  rcases while_same typ_q (skipB l) with ⟨h1, h2⟩ | ⟨c, r, hd, hc, hc2⟩
  · rw [h1, h2]; rfl
  · rw [if_neg (typ_none hd hc hc2)]
    have h32 : c ≠ 32 := by rintro rfl; revert hc; decide
    have h61 : c ≠ 61 := by rintro rfl; revert hc; decide
    rw [hd, skip_no h32]
    split
    · split
      · rename_i l3 heq; injection heq with h _; exact absurd h h61
      · rfl
    · rfl

set_option maxHeartbeats 16000000 in
theorem qpart_any {w : World} {g : Nat} {s : List UInt8} {k : Nat} (h : Rq w g s k) (hk : k ≤ s.length) (hl : s.length ≤ 140737488351232) :
    Calls Try.prog 49 #[.pointer (some ⟨g, 0, none⟩)] w fun e w' => ∃ (t v : List UInt8) (ok : Bool) (j : Nat), e = .returned (.tuple #[.agg #[sv t, sv v], .bool ok]) ∧ k ≤ j ∧ j ≤ s.length ∧ t.length ≤ s.length ∧ v.length ≤ s.length ∧ partR (s.drop k) = (if ok then some ((t, v), s.drop j) else none) ∧ Rq w' g s j ∧ Mod (fun b => b = g) w w' := by
  have hsz := sv_size s
  have hgw : g < w.heap.size := Blk.lt h
  obtain ⟨P, hP⟩ : ∃ P, P = partR (s.drop k) := ⟨_, rfl⟩
  rw [← hP]
  have hPQ := Lib.hid (hP.trans (part_eq _))
  clear hP
  go_enter Try.func49, Try.ntmps49
  go_wp2_with fail
  have B0 : Blk (w.alloc (.cells #[.string ⟨#[]⟩, .string ⟨#[]⟩] 46)) w.heap.size 46 #[.string ⟨#[]⟩, .string ⟨#[]⟩] := Blk.new w _ _
  have h0 := h.mod ((Mod.refl (fun _ => False) w).alloc (.cells #[.string ⟨#[]⟩, .string ⟨#[]⟩] 46)) (fun h => h)
  have m0 := (Mod.refl (fun b => b = g) w).alloc (.cells #[.string ⟨#[]⟩, .string ⟨#[]⟩] 46)
  refine (qblanks_any h0 hk hl).mono ?_
  rintro e w1 ⟨rfl, a, ha, hal, hsa, r1, x1⟩
  have m1 := m0.then_ x1 (fun _ _ h => h)
  have B1 := B0.mod x1 (fun h => by omega)
  clear h0 m0 B0 x1
  replace hsa := Lib.hid hsa
  go_wp2_with fail
  refine (qtyp_any r1 hal hl).mono ?_
  rintro e w2 ⟨rfl, j, hj, hjl, hsj, r2, x2⟩
  have m2 := m1.then_ x2 (fun _ _ h => h)
  have B2 := B1.mod x2 (fun h => by omega)
  clear r1 m1 B1 x2
  have hTl : ((s.drop a).takeWhile typQ).length ≤ s.length := by
    have h1 := List.IsPrefix.length_le (List.takeWhile_prefix (l := s.drop a) typQ)
    rw [List.length_drop] at h1; omega
  have hPT := hPQ.out
  unfold partQ at hPT
  rw [← hsa.out, ← hsj] at hPT
  clear hPQ hsa hsj
  replace hPT := Lib.hid hPT
  generalize (s.drop a).takeWhile typQ = T at *
  go_wp2_with fail
  refine (qblanks_any r2 hjl hl).mono ?_
  rintro e wr ⟨rfl, b, hb, hbl, hsb, rr, x3⟩
  have mr := m2.then_ x3 (fun _ _ h => h)
  have Br := B2.mod x3 (fun h => by omega)
  clear r2 m2 B2 x3
  have hPT2 := hPT.out
  rw [← hsb] at hPT2
  clear hPT hsb
  replace hPT := Lib.hid hPT2
  clear hPT2
  obtain ⟨c0, c1⟩ := rr.c
  have z1 : wr.frozen? ⟨g, 1, none⟩ = false := Blk.frozen rr 1
  have hty := fun wx => rtype_any (w := wx) T (by omega)
  by_cases hT : isTyp T
  case neg =>
    rw [dfalse hT] at hty
    have hE : Hid (P = none) := Lib.hid (by rw [hPT.out, if_neg hT])
    clear hPT hT
    go_wp2_with fail
    go_quiet ((go_at_call 66; (with_reducible refine Calls.quiet_of_same (hty _))))
    obtain ⟨w3, hw3⟩ : ∃ x, x = wr.drewN nq := ⟨_, rfl⟩
    rw [← hw3]
    have x3 : Ext wr w3 := by rw [hw3]; exact (Mod.refl _ wr).drewN nq
    clear hw3 nq c0 c1 z1
    have r3 := rr.mod x3 (fun h => h)
    have m3 : Mod (fun b => b = g) w w3 := mr.then_ x3 (fun _ _ h => h.elim)
    have B3 := Br.mod x3 (fun h => h)
    clear rr mr Br x3
    obtain ⟨c0, c1⟩ := r3.c
    have z1 : w3.frozen? ⟨g, 1, none⟩ = false := Blk.frozen r3 1
    have d0 : _ = some _ := Blk.cell B3 0
    have d1 : _ = some _ := Blk.cell B3 1
    have f0 := Blk.frozen B3 0
    have f1 := Blk.frozen B3 1
    go_wp2_with fail
    have R5 := fun u v => ((B3).set_ 0 u).set_ 1 v
    have m9 := fun u v => ((m3).setCell (p := ⟨w.heap.size, 0, none⟩) (fun h => absurd h (Nat.lt_irrefl _)) u).setCell (p := ⟨w.heap.size, 1, none⟩) (fun h => absurd h (Nat.lt_irrefl _)) v
    have r9 := fun u v => ((r3).far (p := ⟨w.heap.size, 0, none⟩) (Nat.ne_of_lt hgw) u).far (p := ⟨w.heap.size, 1, none⟩) (Nat.ne_of_lt hgw) v
    refine bodyPost_ret (results_cell_row2 Try.results49 _ _ _ _ _ _ _ rfl (R5 _ _) Try.underlying46 rfl (by kernel_rfl)) rfl ?_
    exact ⟨[], [], false, b, rfl, by omega, hbl, Nat.zero_le _, Nat.zero_le _, hE.out, r9 _ _, m9 _ _⟩
  rw [dtrue hT] at hty
  have hPT2 := hPT.out
  rw [if_pos hT] at hPT2
  clear hPT hT
  replace hPT := Lib.hid hPT2
  clear hPT2
  by_cases hlt : b < s.length
  case neg =>
    have hb1 : decide ((s.length : Int) ≤ (b : Int)) = true := dtrue (by omega)
    have hE : Hid (P = none) := Lib.hid (by rw [hPT.out, drop_end hlt])
    clear hPT
    go_wp2_with fail
    go_quiet ((go_at_call 66; (with_reducible refine Calls.quiet_of_same (hty _))))
    obtain ⟨w3, hw3⟩ : ∃ x, x = wr.drewN nq := ⟨_, rfl⟩
    rw [← hw3]
    have x3 : Ext wr w3 := by rw [hw3]; exact (Mod.refl _ wr).drewN nq
    clear hw3 nq c0 c1 z1
    have r3 := rr.mod x3 (fun h => h)
    have m3 : Mod (fun b => b = g) w w3 := mr.then_ x3 (fun _ _ h => h.elim)
    have B3 := Br.mod x3 (fun h => h)
    clear rr mr Br x3
    obtain ⟨c0, c1⟩ := r3.c
    have z1 : w3.frozen? ⟨g, 1, none⟩ = false := Blk.frozen r3 1
    have d0 : _ = some _ := Blk.cell B3 0
    have d1 : _ = some _ := Blk.cell B3 1
    have f0 := Blk.frozen B3 0
    have f1 := Blk.frozen B3 1
    go_wp2_with fail
    have R5 := fun u v => ((B3).set_ 0 u).set_ 1 v
    have m9 := fun u v => ((m3).setCell (p := ⟨w.heap.size, 0, none⟩) (fun h => absurd h (Nat.lt_irrefl _)) u).setCell (p := ⟨w.heap.size, 1, none⟩) (fun h => absurd h (Nat.lt_irrefl _)) v
    have r9 := fun u v => ((r3).far (p := ⟨w.heap.size, 0, none⟩) (Nat.ne_of_lt hgw) u).far (p := ⟨w.heap.size, 1, none⟩) (Nat.ne_of_lt hgw) v
    refine bodyPost_ret (results_cell_row2 Try.results49 _ _ _ _ _ _ _ rfl (R5 _ _) Try.underlying46 rfl (by kernel_rfl)) rfl ?_
    exact ⟨[], [], false, b, rfl, by omega, hbl, Nat.zero_le _, Nat.zero_le _, hE.out, r9 _ _, m9 _ _⟩
  have hb1 : decide ((s.length : Int) ≤ (b : Int)) = false := dfalse (by omega)
  obtain ⟨c, hdr, hg⟩ := get_at hlt
  have hi0 : (0 : Int) ≤ (b : Int) := by omega
  have hi1 : (b : Int) < (s.length : Int) := by omega
  have hq : ((c.toNat : Int) != 61) = !decide (c = 61) := bne_lit c 61
  by_cases h61 : c = 61
  case neg =>
    rw [dfalse h61, Bool.not_false] at hq
    have hE : Hid (P = none) := Lib.hid (by
      rw [hPT.out, hdr]
      split
      · rename_i l3 heq; injection heq with h _; exact absurd h h61
      · rfl)
    clear hPT hdr h61
    go_wp2_with fail
    go_quiet ((go_at_call 66; (with_reducible refine Calls.quiet_of_same (hty _))))
    obtain ⟨w3, hw3⟩ : ∃ x, x = wr.drewN nq := ⟨_, rfl⟩
    rw [← hw3]
    have x3 : Ext wr w3 := by rw [hw3]; exact (Mod.refl _ wr).drewN nq
    clear hw3 nq c0 c1 z1
    have r3 := rr.mod x3 (fun h => h)
    have m3 : Mod (fun b => b = g) w w3 := mr.then_ x3 (fun _ _ h => h.elim)
    have B3 := Br.mod x3 (fun h => h)
    clear rr mr Br x3
    obtain ⟨c0, c1⟩ := r3.c
    have z1 : w3.frozen? ⟨g, 1, none⟩ = false := Blk.frozen r3 1
    have d0 : _ = some _ := Blk.cell B3 0
    have d1 : _ = some _ := Blk.cell B3 1
    have f0 := Blk.frozen B3 0
    have f1 := Blk.frozen B3 1
    go_wp2_with fail
    have R5 := fun u v => ((B3).set_ 0 u).set_ 1 v
    have m9 := fun u v => ((m3).setCell (p := ⟨w.heap.size, 0, none⟩) (fun h => absurd h (Nat.lt_irrefl _)) u).setCell (p := ⟨w.heap.size, 1, none⟩) (fun h => absurd h (Nat.lt_irrefl _)) v
    have r9 := fun u v => ((r3).far (p := ⟨w.heap.size, 0, none⟩) (Nat.ne_of_lt hgw) u).far (p := ⟨w.heap.size, 1, none⟩) (Nat.ne_of_lt hgw) v
    refine bodyPost_ret (results_cell_row2 Try.results49 _ _ _ _ _ _ _ rfl (R5 _ _) Try.underlying46 rfl (by kernel_rfl)) rfl ?_
    exact ⟨[], [], false, b, rfl, by omega, hbl, Nat.zero_le _, Nat.zero_le _, hE.out, r9 _ _, m9 _ _⟩
  rw [dtrue h61, Bool.not_true] at hq
  have hPV : Hid (P = (valueB (s.drop (b + 1))).bind fun p => if p.1 = [] then none else some ((T, p.1), p.2)) := Lib.hid (by rw [hPT.out, hdr, h61]; rfl)
  clear hPT hdr h61
  go_wp2_with fail
  go_quiet ((go_at_call 66; (with_reducible refine Calls.quiet_of_same (hty _))))
  obtain ⟨w3, hw3⟩ : ∃ x, x = wr.drewN nq := ⟨_, rfl⟩
  rw [← hw3]
  have x3 : Ext wr w3 := by rw [hw3]; exact (Mod.refl _ wr).drewN nq
  clear hw3 nq c0 c1 z1
  have r3 := rr.mod x3 (fun h => h)
  have m3 : Mod (fun b => b = g) w w3 := mr.then_ x3 (fun _ _ h => h.elim)
  have B3 := Br.mod x3 (fun h => h)
  clear rr mr Br x3
  obtain ⟨c0, c1⟩ := r3.c
  have z1 : w3.frozen? ⟨g, 1, none⟩ = false := Blk.frozen r3 1
  have d0 : _ = some _ := Blk.cell B3 0
  have d1 : _ = some _ := Blk.cell B3 1
  have f0 := Blk.frozen B3 0
  have f1 := Blk.frozen B3 1
  clear hq hb1 hg hty
  go_wp2_with fail
  clear d0 d1 f0 f1 c0 c1 z1
  have r4 := r3.step (b + 1) ((b : Int) + 1) (by omega)
  have m4 := m3.setCell (p := ⟨g, 1, none⟩) (fun _ => rfl) (.int .i64 ((b : Int) + 1))
  have B4 := B3.far (p := ⟨g, 1, none⟩) (fun h => Nat.ne_of_lt hgw h.symm) (.int .i64 ((b : Int) + 1))
  clear r3 m3 B3
  refine (qblanks_any r4 (by omega) hl).mono ?_
  rintro e w5 ⟨rfl, d, hd, hdl, hsd, r5, x5⟩
  have m5 := m4.then_ x5 (fun _ _ h => h)
  have B5 := B4.mod x5 (fun h => by omega)
  clear r4 m4 B4 x5
  have hPV2 := hPV.out
  unfold valueB at hPV2
  rw [← hsd] at hPV2
  clear hPV hsd
  replace hPV := Lib.hid hPV2
  clear hPV2
  go_wp2_with fail
  refine (qval_any r5 hdl hl).mono ?_
  rintro e w6 ⟨v, ok, n, rfl, hn, hnl, hvl, ht, hf, r6, x6⟩
  have m6 := m5.then_ x6 (fun _ _ h => h)
  have B6 := B5.mod x6 (fun h => by omega)
  clear r5 m5 B5 x6
  have hE : Hid (P = if ok = true then some ((T, v), s.drop n) else none) := Lib.hid (by
    rw [hPV.out]
    cases ok with
    | true =>
      obtain ⟨h1, h2⟩ := ht rfl
      rw [h1]
      show (if v = [] then none else _) = _
      rw [if_neg h2]; rfl
    | false =>
      have := hf rfl
      generalize valF ((s.drop d).length + 1) (s.drop d) [] 0 = V at *
      cases V with
      | none => rfl
      | some p =>
        show (if p.1 = [] then none else _) = _
        rw [if_pos (this p rfl)]; rfl)
  clear hPV ht hf
  have d0 : _ = some _ := Blk.cell B6 0
  have d1 : _ = some _ := Blk.cell B6 1
  have f0 := Blk.frozen B6 0
  have f1 := Blk.frozen B6 1
  go_wp2_with fail
  have R5 := fun u v => ((B6).set_ 0 u).set_ 1 v
  have m9 := fun u v => ((m6).setCell (p := ⟨w.heap.size, 0, none⟩) (fun h => absurd h (Nat.lt_irrefl _)) u).setCell (p := ⟨w.heap.size, 1, none⟩) (fun h => absurd h (Nat.lt_irrefl _)) v
  have r9 := fun u v => ((r6).far (p := ⟨w.heap.size, 0, none⟩) (Nat.ne_of_lt hgw) u).far (p := ⟨w.heap.size, 1, none⟩) (Nat.ne_of_lt hgw) v
  refine bodyPost_ret (results_cell_row2 Try.results49 _ _ _ _ _ _ _ rfl (R5 _ _) Try.underlying46 rfl (by kernel_rfl)) rfl ?_
  exact ⟨T, v, ok, n, rfl, by omega, hnl, hTl, hvl, hE.out, r9 _ _, m9 _ _⟩
end Go.Proofs.Ytacmbomnjedbeaa
