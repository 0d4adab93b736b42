/- filter: the library's IndexRune and IndexAny at the four signs. -/
import Derived.Test.YtekocbphdckmkaaFpF
import Derived.WalkMore
namespace Go.Proofs.Ytekocbphdckmkaa
open Go.Shelf Go.RowKit
set_option maxRecDepth 100000

theorem sgns_at (i : Nat) (h : i < (⟨sgns.toArray⟩ : ByteArray).size) : ((⟨sgns.toArray⟩ : ByteArray)[i]'h).toNat < 128 := by
  have h4 : i < 4 := h
  match i, h4 with
  | 0, _ => exact (by decide : (61 : UInt8).toNat < 128)
  | 1, _ => exact (by decide : (62 : UInt8).toNat < 128)
  | 2, _ => exact (by decide : (60 : UInt8).toNat < 128)
  | 3, _ => exact (by decide : (126 : UInt8).toNat < 128)
theorem sgns_size : (⟨sgns.toArray⟩ : ByteArray).size = 4 := rfl
theorem no_idx : ∀ (l : List UInt8) (b : UInt8), b ∉ l → Lib.indexByte l b = -1
  | [], _, _ => rfl
  | a :: l, b, h => by
    have h1 : ¬ a = b := fun e => h (by rw [e]; exact List.mem_cons_self)
    have h2 := no_idx l b (fun e => h (List.mem_cons_of_mem _ e))
    unfold Lib.indexByte
    rw [if_neg (by simpa using h1), h2]
    rfl
set_option maxHeartbeats 8000000 in
theorem irune_no {w : World} (r : Int) (h1 : 128 ≤ r) :
    Calls Try.prog 59 #[sv sgns, .int .i32 r] w fun e w' => e = .returned (.int .i64 (-1)) ∧ Ext w w' := by
  obtain ⟨S, hS⟩ : ∃ S : ByteArray, S = ⟨sgns.toArray⟩ := ⟨_, rfl⟩
  have hz : S.size = 4 := by rw [hS]; rfl
  have hat : ∀ i (h : i < S.size), (S[i]'h).toNat < 128 := by rw [hS]; exact sgns_at
  show Calls Try.prog 59 #[.string ⟨sgns.toArray⟩, .int .i32 r] w _
  rw [← hS]
  have hx2 : ∀ k, Value.string (S.extract k 4) = sv (sgns.drop k) := fun k => by rw [hS]; exact ext_tail sgns k
  clear hS
  have e0 : decide ((0 : Int) ≤ r) = true := decide_eq_true (by omega)
  have e1 : decide (r < 128) = false := decide_eq_false (by omega)
  by_cases hr : r = 65533
  · subst hr
    have e2 : ((65533 : Int) == 65533) = true := rfl
    clear e0 e1
    go_enter Try.func59, Try.ntmps59
    go_wp2_with fail
    go_loopw [5, 6] (fun _ _ wx => ∃ i : Nat, i ≤ 4 ∧ wx = w.iter S i) (fun _ _ wx => 4 - wx.iterPos w.heap.size)
    case atStart => exact ⟨0, by omega, rfl⟩
    case round =>
      obtain ⟨i, hi, rfl⟩ := hrel
      by_cases h4 : i < 4
      · have hlt : i < S.size := by omega
        have hx := hat i hlt
        have hnx := fun ty => run_next_ascii (P := Try.prog) w S i ty hlt hx
        have hne : (((S[i]'hlt).toNat : Int) == 65533) = false := beq_eq_false_iff_ne.2 (by omega)
        generalize (S[i]'hlt) = x at *
        go_wp2_with fail
        refine ⟨⟨i + 1, by omega, rfl⟩, ?_⟩
        rw [World.iterPos_iter, World.iterPos_iter]; omega
      · have hnx := run_next_end (P := Try.prog) w S i (ty := 0) (by omega)
        have hnx2 := fun ty => run_next_end (P := Try.prog) w S i ty (by omega)
        go_wp2_with fail
        go_ret
        exact ⟨rfl, (Mod.refl _ w).alloc _⟩
  have e2 : (r == 65533) = false := beq_eq_false_iff_ne.2 hr
  have hvr := vrune_any (w := w) r
  cases hv : Utf8.valid r
  · rw [hv] at hvr
    clear hr hv hx2
    go_enter Try.func59, Try.ntmps59
    go_wp2_with fail
    refine hvr.mono ?_
    rintro e w1 ⟨rfl, rfl⟩
    clear hvr
    go_wp2_with fail
    go_ret
    exact ⟨rfl, Mod.refl _ _⟩
  rw [hv] at hvr
  obtain ⟨E, hE⟩ : ∃ E, E = Utf8.encode r := ⟨_, rfl⟩
  have hcv := fun wx => run_convert_int_string (P := Try.prog) wx 21 9 .i32 r (by rw [Try.underlying21]; rfl) Try.underlying9
  rw [← hE] at hcv
  have hfa := encode_facts r hv h1
  rw [← hE] at hfa
  obtain ⟨h2, h3, h4⟩ := hfa
  clear hE hv hr
  obtain ⟨y, hy⟩ : ∃ y, y = E[E.size - 1]'(by omega) := ⟨_, rfl⟩
  have hy8 := h4 (by omega)
  rw [← hy] at hy8
  have hyi : ∀ h', E[E.size - 1]'h' = y := fun _ => hy.symm
  clear h4 hy
  have hno : ∀ k, Lib.indexByte (sgns.drop k) y = -1 := fun k => no_idx _ _ (fun h => by
    have h5 : y ∈ sgns := List.mem_of_mem_drop h
    have h6 : ∀ b ∈ sgns, b.toNat < 128 := by decide
    have := h6 y h5
    omega)
  have hix := fun k wx => sidx_any (w := wx) (sgns.drop k) y
  obtain ⟨n, hn⟩ : ∃ n, n = E.size := ⟨_, rfl⟩
  have hnc : n = 2 ∨ n = 3 ∨ n = 4 := by omega
  clear h2 h3
  rcases hnc with rfl | rfl | rfl
  · have hs := hn.symm
    clear hn
    have hy1 : ∀ h', E[1]'h' = y := fun h' => by have := hyi (by omega); simpa [hs] using this
    have hx1 := hat 1 (by omega)
    obtain ⟨x, hx⟩ : ∃ x, x = S[1]'(by omega) := ⟨_, rfl⟩
    have hxi : ∀ h', S[1]'h' = x := fun _ => hx.symm
    rw [← hx] at hx1
    have hne : ((x.toNat : Int) != (y.toNat : Int)) = true := bne_iff_ne.2 (by omega)
    have hix2 := hix 2
    rw [hno] at hix2
    replace hix2 := Lib.hid hix2
    have hx3 := hx2 2
    have hw : IntKind.i64.wrap 2 = 2 := by decide
    clear hyi hx hat hx1 hy8 hno hix hx2
    go_enter Try.func59, Try.ntmps59
    go_wp2_with fail
    refine hvr.mono ?_
    rintro e w1 ⟨rfl, rfl⟩
    clear hvr
    go_wp2_with fail
    go_step3
    go_wp2_with fail
    go_loopw [9] (fun v wx => v = .int .i64 1 ∧ wx = w1) (fun _ _ => 0)
    case atStart => exact ⟨rfl, rfl⟩
    case round =>
      obtain ⟨rfl, rfl⟩ := hrel
      go_wp2_with fail
      go_step3
      go_wp2_with fail
      go_quiet (fail)
      obtain ⟨w3, hw3⟩ : ∃ x, x = wr.drewN nq := ⟨_, rfl⟩
      rw [← hw3]
      have x3 : Ext wr w3 := by rw [hw3]; exact (Mod.refl _ _).drewN _
      clear hw3
      go_wp2_with fail
      go_quiet ((go_at_call 48; (with_reducible refine Calls.quiet_of_same (hix2.out _))))
      go_wp2_with fail
      rw [Exit.noGoto_ret]
      go_wp2_with fail
      rw [Exit.noGoto_ret]
      go_ret
      exact ⟨rfl, x3.drewN _⟩
  · have hs := hn.symm
    clear hn
    have hy1 : ∀ h', E[2]'h' = y := fun h' => by have := hyi (by omega); simpa [hs] using this
    have hx1 := hat 2 (by omega)
    obtain ⟨x, hx⟩ : ∃ x, x = S[2]'(by omega) := ⟨_, rfl⟩
    have hxi : ∀ h', S[2]'h' = x := fun _ => hx.symm
    rw [← hx] at hx1
    have hne : ((x.toNat : Int) != (y.toNat : Int)) = true := bne_iff_ne.2 (by omega)
    have hix2 := hix 3
    rw [hno] at hix2
    replace hix2 := Lib.hid hix2
    have hx3 := hx2 3
    have hw : IntKind.i64.wrap 3 = 3 := by decide
    clear hyi hx hat hx1 hy8 hno hix hx2
    go_enter Try.func59, Try.ntmps59
    go_wp2_with fail
    refine hvr.mono ?_
    rintro e w1 ⟨rfl, rfl⟩
    clear hvr
    go_wp2_with fail
    go_step3
    go_wp2_with fail
    go_loopw [9] (fun v wx => v = .int .i64 2 ∧ wx = w1) (fun _ _ => 0)
    case atStart => exact ⟨rfl, rfl⟩
    case round =>
      obtain ⟨rfl, rfl⟩ := hrel
      go_wp2_with fail
      go_step3
      go_wp2_with fail
      go_quiet (fail)
      obtain ⟨w3, hw3⟩ : ∃ x, x = wr.drewN nq := ⟨_, rfl⟩
      rw [← hw3]
      have x3 : Ext wr w3 := by rw [hw3]; exact (Mod.refl _ _).drewN _
      clear hw3
      go_wp2_with fail
      go_quiet ((go_at_call 48; (with_reducible refine Calls.quiet_of_same (hix2.out _))))
      go_wp2_with fail
      rw [Exit.noGoto_ret]
      go_wp2_with fail
      rw [Exit.noGoto_ret]
      go_ret
      exact ⟨rfl, x3.drewN _⟩
  · have hs := hn.symm
    clear hn
    have hy1 : ∀ h', E[3]'h' = y := fun h' => by have := hyi (by omega); simpa [hs] using this
    have hx1 := hat 3 (by omega)
    obtain ⟨x, hx⟩ : ∃ x, x = S[3]'(by omega) := ⟨_, rfl⟩
    have hxi : ∀ h', S[3]'h' = x := fun _ => hx.symm
    rw [← hx] at hx1
    have hne : ((x.toNat : Int) != (y.toNat : Int)) = true := bne_iff_ne.2 (by omega)
    have hix2 := hix 4
    rw [hno, show sgns.drop 4 = [] from rfl] at hix2
    replace hix2 := Lib.hid hix2
    have hx3 := hx2 4
    rw [show sgns.drop 4 = [] from rfl] at hx3
    have hw : IntKind.i64.wrap 4 = 4 := by decide
    clear hyi hx hat hx1 hy8 hno hix hx2
    go_enter Try.func59, Try.ntmps59
    go_wp2_with fail
    refine hvr.mono ?_
    rintro e w1 ⟨rfl, rfl⟩
    clear hvr
    go_wp2_with fail
    go_step3
    go_wp2_with fail
    go_loopw [9] (fun v wx => v = .int .i64 3 ∧ wx = w1) (fun _ _ => 0)
    case atStart => exact ⟨rfl, rfl⟩
    case round =>
      obtain ⟨rfl, rfl⟩ := hrel
      go_wp2_with fail
      go_step3
      go_wp2_with fail
      go_quiet (fail)
      obtain ⟨w3, hw3⟩ : ∃ x, x = wr.drewN nq := ⟨_, rfl⟩
      rw [← hw3]
      have x3 : Ext wr w3 := by rw [hw3]; exact (Mod.refl _ _).drewN _
      clear hw3
      go_wp2_with fail
      go_quiet ((go_at_call 48; (refine Calls.quiet_of_same (hix2.out _))))
      go_wp2_with fail
      rw [Exit.noGoto_ret]
      go_wp2_with fail
      rw [Exit.noGoto_ret]
      go_ret
      exact ⟨rfl, x3.drewN _⟩
end Go.Proofs.Ytekocbphdckmkaa
