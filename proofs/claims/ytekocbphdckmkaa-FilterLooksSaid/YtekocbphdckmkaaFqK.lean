/- filter: a value as it is printed, the document's way. -/
import Derived.Test.YtekocbphdckmkaaFqJ
namespace Go.Proofs.Ytekocbphdckmkaa
open Go.RowKit
set_option maxRecDepth 100000

theorem hexB_lo : ∀ n, n < 10 → (hexB n).toNat = 48 + n := by decide
theorem hexB_hi : ∀ n, n < 16 → ¬ n < 10 → (hexB n).toNat = 97 + n - 10 := by decide
set_option maxHeartbeats 4000000 in
theorem hex_any {w : World} {x : Int} {n : Nat} (hx : x = n) (hn : n < 16) : Calls Try.prog 49 #[.int .u8 x] w fun e w' => e = .returned (bv (hexB n)) ∧ w' = w := by
  subst hx
  show Calls Try.prog 49 #[.int .u8 (n : Int)] w fun e w' => e = .returned (.int .u8 ((hexB n).toNat : Int)) ∧ w' = w
  by_cases h : n < 10
  · have hb : decide ((n : Int) < 10) = true := dtrue (by omega)
    have hr := Lib.hid (hexB_lo n h)
    generalize (hexB n).toNat = R at *
    go_enter Try.func49, Try.ntmps49
    go_wp2_with fail
    go_ret
    exact ⟨by rw [hr.out]; simp <;> omega, rfl⟩
  · have hb : decide ((n : Int) < 10) = false := dfalse (by omega)
    have hr := Lib.hid (hexB_hi n hn h)
    generalize (hexB n).toNat = R at *
    go_enter Try.func49, Try.ntmps49
    go_wp2_with fail
    go_ret
    exact ⟨by rw [hr.out]; simp <;> omega, rfl⟩

set_option maxHeartbeats 16000000 in
theorem told_any {w : World} {s : List UInt8} (hn : s.length ≤ 30000000) :
    Calls Try.prog 37 #[sv s] w fun e w' => e = .returned (sv (toldB s)) ∧ Ext w w' := by
  have hsz := sv_size s
  go_enter Try.func37, Try.ntmps37
  go_wp2_with fail
  go_loopw [3, 4] (fun vo i wr => ∃ k : Nat, k ≤ s.length ∧ i = .int .i64 k ∧ Own wr 5 vo ((toldB (s.take k)).map bv) ∧ Fresh w.heap.size vo ∧ Ext w wr) (fun _ i _ => s.length - (intOf i).toNat)
  case atStart => exact ⟨0, Nat.zero_le _, rfl, by simpa [toldB] using Own.nil w 5, fresh_nil _ 0 0, Mod.refl _ _⟩
  case round =>
    obtain ⟨k, hk, rfl, p1, p2, p3⟩ := hrel
    by_cases hlt : k < s.length
    case neg =>
      have hbl : decide ((k : Int) < (s.length : Int)) = false := dfalse (by omega)
      rw [List.take_of_length_le (by omega)] at p1
      have cv := run_conv (P := Try.prog) Try.underlying48 Try.underlying5 Try.underlying9 p1.sl
      go_wp2_with fail
      go_ret
      exact ⟨rfl, p3⟩
    have hbl : decide ((k : Int) < (s.length : Int)) = true := dtrue (by omega)
    obtain ⟨b, hbk⟩ : ∃ b, b = s[k] := ⟨_, rfl⟩
    have hg : ∀ h', (⟨s.toArray⟩ : ByteArray)[k]'h' = b := fun h' => (sv_get s k hlt h').trans hbk.symm
    have heq := toldB_snoc s hlt
    rw [← hbk] at heq
    have hel := toldB_len (s.take k)
    rw [List.length_take] at hel
    have hol : (toldB (s.take k)).length + 3 ≤ 140737488355328 := by omega
    clear hel hbk
    generalize toldB (s.take k) = o at *
    have hi0 : (0 : Int) ≤ (k : Int) := by omega
    have hi1 : (k : Int) < (s.length : Int) := by omega
    have hb256 := b.toNat_lt
    by_cases hw1 : specB b
    · unfold escP at heq
      rw [if_pos hw1] at heq
      replace heq := Lib.hid heq
      have h1lt : b.toNat / 16 < 16 := by omega
      have h2lt : b.toNat % 16 < 16 := by omega
      have e4 := and15 b
      have pd := p1.alloc (.cells #[.int .u8 92, bv (hexB (b.toNat / 16)), bv (hexB (b.toNat % 16))] 5)
      have pl := Sl.lit wr 5 [(.int .u8 92 : Value), bv (hexB (b.toNat / 16)), bv (hexB (b.toNat % 16))] (by simp [maxLen])
      have pn := Lib.hid (show ((o.map bv).length + [(.int .u8 92 : Value), bv (hexB (b.toNat / 16)), bv (hexB (b.toNat % 16))].length) * 1 ≤ 140737488355328 by simp only [List.length_map, List.length_cons, List.length_nil]; omega)
      have heq2 : Hid ((toldB (s.take (k + 1))).map bv = o.map bv ++ [(.int .u8 92 : Value), bv (hexB (b.toNat / 16)), bv (hexB (b.toNat % 16))]) := Lib.hid (by rw [heq.out, List.map_append]; rfl)
      have hone : ∀ u ∈ [(.int .u8 92 : Value), bv (hexB (b.toNat / 16)), bv (hexB (b.toNat % 16))], u.oneCell' = true := by
        intro u hu
        simp only [List.mem_cons, List.not_mem_nil, or_false] at hu
        rcases hu with rfl | rfl | rfl <;> rfl
      have hx1 : ∀ {wx : World} {x : Int}, x = (b.toNat / 16 : Nat) → Calls Try.prog 49 #[.int .u8 x] wx fun e w' => e = .returned (bv (hexB (b.toNat / 16))) ∧ w' = wx := fun h => hex_any h h1lt
      have hx2 : ∀ {wx : World} {x : Int}, x = (b.toNat % 16 : Nat) → Calls Try.prog 49 #[.int .u8 x] wx fun e w' => e = .returned (bv (hexB (b.toNat % 16))) ∧ w' = wx := fun h => hex_any h h2lt
      generalize hexB (b.toNat / 16) = y1 at *
      generalize hexB (b.toNat % 16) = y2 at *
      replace hx1 := fun {wx : World} {x : Int} (h : x = (b.toNat / 16 : Nat)) => Lib.hid (hx1 (wx := wx) h)
      replace hx2 := fun {wx : World} {x : Int} (h : x = (b.toNat % 16 : Nat)) => Lib.hid (hx2 (wx := wx) h)
      have hcase : (decide ((b.toNat : Int) < 32) = true) ∨ (decide ((b.toNat : Int) < 32) = false ∧ decide ((126 : Int) < (b.toNat : Int)) = true) ∨ (decide ((b.toNat : Int) < 32) = false ∧ decide ((126 : Int) < (b.toNat : Int)) = false ∧ (((b.toNat : Int) == 42) = true ∨ (((b.toNat : Int) == 42) = false ∧ ((b.toNat : Int) == 40) = true) ∨ (((b.toNat : Int) == 42) = false ∧ ((b.toNat : Int) == 40) = false ∧ ((b.toNat : Int) == 41) = true) ∨ (((b.toNat : Int) == 42) = false ∧ ((b.toNat : Int) == 40) = false ∧ ((b.toNat : Int) == 41) = false ∧ ((b.toNat : Int) == 92) = true))) := by
        by_cases h1 : b.toNat < 32
        · exact .inl (dtrue (by omega))
        · by_cases h2 : 126 < b.toNat
          · exact .inr (.inl ⟨dfalse (by omega), dtrue (by omega)⟩)
          · refine .inr (.inr ⟨dfalse (by omega), dfalse (by omega), ?_⟩)
            rcases hw1 with h | h
            · omega
            · by_cases g1 : b = 42
              · exact .inl (byte_eq b (n := 42) (by omega) g1)
              by_cases g2 : b = 40
              · exact .inr (.inl ⟨byte_ne b (n := 42) (by omega) g1, byte_eq b (n := 40) (by omega) g2⟩)
              by_cases g3 : b = 41
              · exact .inr (.inr (.inl ⟨byte_ne b (n := 42) (by omega) g1, byte_ne b (n := 40) (by omega) g2, byte_eq b (n := 41) (by omega) g3⟩))
              have g4 : b = 92 := by
                simp only [List.mem_cons, List.not_mem_nil, or_false] at h
                rcases h with h | h | h | h
                · exact absurd h g1
                · exact absurd h g2
                · exact absurd h g3
                · exact h
              exact .inr (.inr (.inr ⟨byte_ne b (n := 42) (by omega) g1, byte_ne b (n := 40) (by omega) g2, byte_ne b (n := 41) (by omega) g3, byte_eq b (n := 92) (by omega) g4⟩))
      obtain ⟨A, cc, rfl⟩ := p1.shape
      rw [List.length_map] at p1 p2 pd
      clear hw1 h1lt h2lt heq
      replace p1 := Lib.hid p1
      rcases hcase with c1 | ⟨c1, c2⟩ | ⟨c1, c2, c3 | ⟨c3, c4⟩ | ⟨c3, c4, c5⟩ | ⟨c3, c4, c5, c6⟩⟩
      · go_wp2_with fail
        refine (hx1 (by omega)).out.mono ?_
        rintro e w9 ⟨rfl, rfl⟩
        go_wp2_with fail
        refine (hx2 (by first | exact e4 | omega | simp)).out.mono ?_
        rintro e w9 ⟨rfl, rfl⟩
        clear hx1 hx2
        go_wp2_with ((with_reducible show wpList _ _ _ (⟨some 45, _, _, _, _, _⟩ :: _) _ _); refine wp_app tyB pd pl hone rfl (.tmp 37) (.tmp 44) rfl rfl rfl pn.out ?_; intro v2 w2 k1 k2 k3)
        exact ⟨⟨k + 1, by omega, by go_num, by rw [heq2.out]; exact k1, k3.fresh p2 (p3.alloc _).size, (p3.alloc _).trans k2 (fun _ _ h => h) (fun b hb h => by have := p2 b h; omega)⟩, by simp [intOf] <;> omega⟩
      · go_wp2_with fail
        refine (hx1 (by omega)).out.mono ?_
        rintro e w9 ⟨rfl, rfl⟩
        go_wp2_with fail
        refine (hx2 (by first | exact e4 | omega | simp)).out.mono ?_
        rintro e w9 ⟨rfl, rfl⟩
        clear hx1 hx2
        go_wp2_with ((with_reducible show wpList _ _ _ (⟨some 45, _, _, _, _, _⟩ :: _) _ _); refine wp_app tyB pd pl hone rfl (.tmp 37) (.tmp 44) rfl rfl rfl pn.out ?_; intro v2 w2 k1 k2 k3)
        exact ⟨⟨k + 1, by omega, by go_num, by rw [heq2.out]; exact k1, k3.fresh p2 (p3.alloc _).size, (p3.alloc _).trans k2 (fun _ _ h => h) (fun b hb h => by have := p2 b h; omega)⟩, by simp [intOf] <;> omega⟩
      · go_wp2_with fail
        refine (hx1 (by omega)).out.mono ?_
        rintro e w9 ⟨rfl, rfl⟩
        go_wp2_with fail
        refine (hx2 (by first | exact e4 | omega | simp)).out.mono ?_
        rintro e w9 ⟨rfl, rfl⟩
        clear hx1 hx2
        go_wp2_with ((with_reducible show wpList _ _ _ (⟨some 45, _, _, _, _, _⟩ :: _) _ _); refine wp_app tyB pd pl hone rfl (.tmp 37) (.tmp 44) rfl rfl rfl pn.out ?_; intro v2 w2 k1 k2 k3)
        exact ⟨⟨k + 1, by omega, by go_num, by rw [heq2.out]; exact k1, k3.fresh p2 (p3.alloc _).size, (p3.alloc _).trans k2 (fun _ _ h => h) (fun b hb h => by have := p2 b h; omega)⟩, by simp [intOf] <;> omega⟩
      · go_wp2_with fail
        refine (hx1 (by omega)).out.mono ?_
        rintro e w9 ⟨rfl, rfl⟩
        go_wp2_with fail
        refine (hx2 (by first | exact e4 | omega | simp)).out.mono ?_
        rintro e w9 ⟨rfl, rfl⟩
        clear hx1 hx2
        go_wp2_with ((with_reducible show wpList _ _ _ (⟨some 45, _, _, _, _, _⟩ :: _) _ _); refine wp_app tyB pd pl hone rfl (.tmp 37) (.tmp 44) rfl rfl rfl pn.out ?_; intro v2 w2 k1 k2 k3)
        exact ⟨⟨k + 1, by omega, by go_num, by rw [heq2.out]; exact k1, k3.fresh p2 (p3.alloc _).size, (p3.alloc _).trans k2 (fun _ _ h => h) (fun b hb h => by have := p2 b h; omega)⟩, by simp [intOf] <;> omega⟩
      · go_wp2_with fail
        refine (hx1 (by omega)).out.mono ?_
        rintro e w9 ⟨rfl, rfl⟩
        go_wp2_with fail
        refine (hx2 (by first | exact e4 | omega | simp)).out.mono ?_
        rintro e w9 ⟨rfl, rfl⟩
        clear hx1 hx2
        go_wp2_with ((with_reducible show wpList _ _ _ (⟨some 45, _, _, _, _, _⟩ :: _) _ _); refine wp_app tyB pd pl hone rfl (.tmp 37) (.tmp 44) rfl rfl rfl pn.out ?_; intro v2 w2 k1 k2 k3)
        exact ⟨⟨k + 1, by omega, by go_num, by rw [heq2.out]; exact k1, k3.fresh p2 (p3.alloc _).size, (p3.alloc _).trans k2 (fun _ _ h => h) (fun b hb h => by have := p2 b h; omega)⟩, by simp [intOf] <;> omega⟩
      · go_wp2_with fail
        refine (hx1 (by omega)).out.mono ?_
        rintro e w9 ⟨rfl, rfl⟩
        go_wp2_with fail
        refine (hx2 (by first | exact e4 | omega | simp)).out.mono ?_
        rintro e w9 ⟨rfl, rfl⟩
        clear hx1 hx2
        go_wp2_with ((with_reducible show wpList _ _ _ (⟨some 45, _, _, _, _, _⟩ :: _) _ _); refine wp_app tyB pd pl hone rfl (.tmp 37) (.tmp 44) rfl rfl rfl pn.out ?_; intro v2 w2 k1 k2 k3)
        exact ⟨⟨k + 1, by omega, by go_num, by rw [heq2.out]; exact k1, k3.fresh p2 (p3.alloc _).size, (p3.alloc _).trans k2 (fun _ _ h => h) (fun b hb h => by have := p2 b h; omega)⟩, by simp [intOf] <;> omega⟩
    · unfold escP at heq
      rw [if_neg hw1] at heq
      have c1 : decide ((b.toNat : Int) < 32) = false := dfalse (fun h => hw1 (.inl (.inl (by omega))))
      have c2 : decide ((126 : Int) < (b.toNat : Int)) = false := dfalse (fun h => hw1 (.inl (.inr (by omega))))
      have c3 : ((b.toNat : Int) == 42) = false := byte_ne b (n := 42) (by omega) (fun h => hw1 (.inr (by rw [h]; decide)))
      have c4 : ((b.toNat : Int) == 40) = false := byte_ne b (n := 40) (by omega) (fun h => hw1 (.inr (by rw [h]; decide)))
      have c5 : ((b.toNat : Int) == 41) = false := byte_ne b (n := 41) (by omega) (fun h => hw1 (.inr (by rw [h]; decide)))
      have c6 : ((b.toNat : Int) == 92) = false := byte_ne b (n := 92) (by omega) (fun h => hw1 (.inr (by rw [h]; decide)))
      have hol1 := Lib.hid (show o.length + 1 ≤ 140737488355328 by omega)
      obtain ⟨A, cc, rfl⟩ := p1.shape
      rw [List.length_map] at p1 p2 ⊢
      replace heq := Lib.hid heq
      clear hw1
      go_wp2_with ((with_reducible show wpList _ _ _ (⟨some 49, _, _, _, _, _⟩ :: _) _ _); refine wp_app1 tyB p1 rfl hol1.out rfl (.tmp 46) (.tmp 48) rfl rfl rfl ?_; intro v2 w2 k1 k2 k3)
      exact ⟨⟨k + 1, by omega, by go_num, by rw [heq.out]; exact k1, k3.fresh p2 p3.size, p3.trans k2 (fun _ _ h => h) (fun b hb h => by have := p2 b h; omega)⟩, by simp [intOf] <;> omega⟩
end Go.Proofs.Ytekocbphdckmkaa
