/- match: Number, phone, text. -/
import Derived.Test.YtacmbomnjedbeaaMtC
import Derived.Test.YtacmbomnjedbeaaDnQF
import Derived.Test.YtacmbomnjedbeaaMtS
namespace Go.Proofs.Ytacmbomnjedbeaa
open Go.RowKit
set_option maxRecDepth 100000

theorem trim_body (s : List UInt8) : Lib.trimPrefix s [45] = bodyN s := by
  unfold Lib.trimPrefix Lib.hasPrefix
  cases s with
  | nil => rfl
  | cons c d =>
    by_cases hc : c = 45
    · subst hc; simp [bodyN, List.isPrefixOf]
    · rw [if_neg (by simp [List.isPrefixOf]; exact fun h => hc h.symm)]
      simp [bodyN, hc]
theorem body_len (s : List UInt8) : (bodyN s).length ≤ s.length := by
  cases s with
  | nil => simp [bodyN]
  | cons c d => by_cases hc : c = 45 <;> simp [bodyN, hc]
theorem all_snoc {d : List UInt8} {k : Nat} (h : k < d.length) : (d.take (k + 1)).all digB9 = ((d.take k).all digB9 && digB9 d[k]) := by
  rw [List.take_succ_eq_append_getElem h, List.all_append]
  simp
theorem all_no {d : List UInt8} {k : Nat} (h : k < d.length) (hc : digB9 d[k] = false) : d.all digB9 = false := by
  rw [Bool.eq_false_iff]
  intro ha
  rw [List.all_eq_true] at ha
  rw [ha _ (List.getElem_mem h)] at hc
  cases hc
theorem isNum_no {s d : List UInt8} (hd : d = bodyN s) (h : d.length < 1 ∨ 18 < d.length ∨ d.all digB9 = false ∨ (d.getD 0 0 = 48 ∧ 1 < s.length)) : numB s = ([], false) := by
  unfold numB
  rw [if_neg]
  intro hn
  obtain ⟨h1, h2, h3, h4⟩ := isNum_out hn
  rw [← hd] at h1 h2 h3 h4
  rcases h with h | h | h | h
  · omega
  · omega
  · rw [h4] at h; cases h
  · exact h3 h
theorem isNum_yes {s d : List UInt8} (hd : d = bodyN s) (h1 : 1 ≤ d.length) (h2 : d.length ≤ 18) (h3 : d.all digB9 = true) (h4 : ¬ (d.getD 0 0 = 48 ∧ 1 < s.length)) : numB s = (s, true) := by
  unfold numB
  rw [if_pos]
  unfold isNum
  rw [← hd, Bool.and_eq_true, decide_eq_true_eq]
  exact ⟨⟨h1, h2, h4⟩, h3⟩
theorem one_nought {s d : List UInt8} (hd : d = bodyN s) (h : d.getD 0 0 = 48) (h1 : 1 ≤ d.length) (hs : s ≠ [48]) : 1 < s.length := by
  cases s with
  | nil => rw [hd] at h1; simp [bodyN] at h1
  | cons c r =>
    by_cases hc : c = 45
    · rw [hd, bodyN, if_pos hc] at h1
      simp only [List.length_cons]
      omega
    · rw [hd, bodyN, if_neg hc] at h
      have : c = 48 := h
      subst this
      cases r with
      | nil => exact absurd rfl hs
      | cons => simp
set_option maxHeartbeats 4000000 in
theorem number_any {w : World} (s : List UInt8) (hs : s.length ≤ 140737488351232) :
    Calls Try.prog 59 #[sv s] w fun e w' => e = .returned (.tuple #[sv (numB s).1, .bool (numB s).2]) ∧ w' = w := by
  have hsz := sv_size s
  obtain ⟨R, hR⟩ : ∃ R, R = numB s := ⟨_, rfl⟩
  rw [← hR]
  have hc1 := trimp_any (w := w) s [45]
  rw [trim_body] at hc1
  have hdl := body_len s
  obtain ⟨d, hd⟩ : ∃ d, d = bodyN s := ⟨_, rfl⟩
  rw [← hd] at hc1 hdl
  have hno := fun h => hR.trans (isNum_no hd h)
  have hyes := fun h1 h2 h3 h4 => hR.trans (isNum_yes hd h1 h2 h3 h4)
  have hnz := one_nought hd
  replace hno := Lib.hid hno
  replace hyes := Lib.hid hyes
  replace hnz := Lib.hid hnz
  clear hR hd
  have hdz := sv_size d
  go_enter Try.func59, Try.ntmps59
  go_wp2_with fail
  refine hc1.mono ?_
  rintro e w1 ⟨rfl, rfl⟩
  clear hc1
  by_cases h1 : d.length < 1
  · have hb : decide ((d.length : Int) < 1) = true := dtrue (by omega)
    obtain rfl := hno.out (.inl h1)
    go_wp2_with fail
    go_ret2
    exact ⟨rfl, rfl⟩
  have hb : decide ((d.length : Int) < 1) = false := dfalse (by omega)
  by_cases h2 : 18 < d.length
  · have hb2 : decide ((18 : Int) < (d.length : Int)) = true := dtrue (by omega)
    obtain rfl := hno.out (.inr (.inl h2))
    go_wp2_with fail
    go_ret2
    exact ⟨rfl, rfl⟩
  have hb2 : decide ((18 : Int) < (d.length : Int)) = false := dfalse (by omega)
  go_wp2_with fail
  go_loop [18] (fun i => ∃ k : Nat, k ≤ d.length ∧ i = .int .i64 k ∧ Hid ((d.take k).all digB9 = true)) (fun i => d.length - (intOf i).toNat)
  case atStart => exact ⟨0, Nat.zero_le _, rfl, Lib.hid (by simp)⟩
  case round =>
    obtain ⟨k, hk, rfl, hall⟩ := hrel
    by_cases hlt : k < d.length
    · have hbl : decide ((k : Int) < (d.length : Int)) = true := dtrue (by omega)
      have hsn := all_snoc hlt
      have hnn := all_no hlt
      obtain ⟨c, hck⟩ : ∃ c, c = d[k] := ⟨_, rfl⟩
      have hg : ∀ h', (⟨d.toArray⟩ : ByteArray)[k]'h' = c := fun h' => (sv_get d k hlt h').trans hck.symm
      rw [← hck] at hsn hnn
      clear hck
      have hdc : digB9 c = decide (48 ≤ c.toNat ∧ c.toNat ≤ 57) := rfl
      by_cases hlo : c.toNat < 48
      · have b1 : decide ((c.toNat : Int) < 48) = true := dtrue (by omega)
        obtain rfl := hno.out (.inr (.inr (.inl (hnn (by rw [hdc]; exact decide_eq_false (by omega))))))
        clear hsn hnn hdc
        go_wp2_with fail
        go_ret2
        exact ⟨rfl, rfl⟩
      have b1 : decide ((c.toNat : Int) < 48) = false := dfalse (by omega)
      by_cases hhi : 57 < c.toNat
      · have b2 : decide ((57 : Int) < (c.toNat : Int)) = true := dtrue (by omega)
        obtain rfl := hno.out (.inr (.inr (.inl (hnn (by rw [hdc]; exact decide_eq_false (by omega))))))
        clear hsn hnn hdc
        go_wp2_with fail
        go_ret2
        exact ⟨rfl, rfl⟩
      have b2 : decide ((57 : Int) < (c.toNat : Int)) = false := dfalse (by omega)
      have hx : Hid ((d.take (k + 1)).all digB9 = true) := Lib.hid (by rw [hsn, hall.out, hdc]; simp; omega)
      clear hsn hnn hdc
      go_wp2_with fail
      go_round
      case rel => exact ⟨k + 1, by omega, by go_num, hx⟩
      case measure => simp [intOf]; omega
    · have hbl : decide ((k : Int) < (d.length : Int)) = false := dfalse (by omega)
      have ha2 : Hid (d.all digB9 = true) := Lib.hid (by have := hall.out; rwa [List.take_of_length_le (by omega)] at this)
      clear hall
      have hg : ∀ h', (⟨d.toArray⟩ : ByteArray)[0]'h' = d[0]'(by omega) := fun h' => sv_get d 0 (by omega) h'
      have h0 : d.getD 0 0 = d[0]'(by omega) := getD_at d (by omega)
      have hdpos : 0 < d.length := by omega
      rw [h0] at hyes hno hnz
      generalize d[0]'(by omega) = c at *
      by_cases hc0 : c = 48
      · subst hc0
        have bz : (((48 : UInt8).toNat : Int) == 48) = true := rfl
        by_cases hs1 : s = [48]
        · subst hs1
          have hx := hyes.out (by omega) (by omega) ha2.out (by simp)
          subst hx
          clear hno hyes hnz ha2
          go_wp2_with fail
          go_ret2
          exact ⟨rfl, rfl⟩
        · have hx := hno.out (.inr (.inr (.inr ⟨rfl, hnz.out rfl (by omega) hs1⟩)))
          have bs : (s == [48]) = false := beq_eq_false_iff_ne.2 hs1
          subst hx
          clear hno hyes hnz ha2
          go_wp2_with fail
          go_ret2
          exact ⟨rfl, rfl⟩
      · have hx := hyes.out (by omega) (by omega) ha2.out (fun h => hc0 h.1)
        have bz : ((c.toNat : Int) == 48) = false := by
          rw [beq_eq_false_iff_ne]
          intro e
          exact hc0 (UInt8.toNat_inj.1 (by simpa using Int.ofNat_inj.1 e))
        subst hx
        clear hno hyes hnz ha2
        go_wp2_with fail
        go_ret2
        exact ⟨rfl, rfl⟩
theorem bare_snoc (s : List UInt8) {k : Nat} (h : k < s.length) : bareB (s.take (k + 1)) = if s[k] = 32 ∨ s[k] = 45 then bareB (s.take k) else bareB (s.take k) ++ [s[k]] := by
  unfold bareB
  rw [List.take_succ_eq_append_getElem h, List.filter_append]
  by_cases h1 : s[k] = 32
  · simp [h1]
  · by_cases h2 : s[k] = 45
    · simp [h2]
    · simp [h1, h2]
set_option maxHeartbeats 4000000 in
theorem phone_any {w : World} (s : List UInt8) (hl : s.length ≤ 140737488351232) :
    Calls Try.prog 62 #[sv s] w fun e w' => e = .returned (sv (bareB s)) ∧ Ext w w' := by
  have hsz := sv_size s
  obtain ⟨O, hO⟩ : ∃ O, O = bareB s := ⟨_, rfl⟩
  rw [← hO]
  replace hO := Lib.hid hO
  go_enter Try.func62, Try.ntmps62
  go_wp2_with ((with_reducible show wpList _ _ _ (⟨some 7, _, _, _, _, _⟩ :: _) _ _); refine wp_make0 tyB s.length rfl (.const _) (.tmp 6) rfl rfl rfl (by omega) ?_; intro w1 hown1 hext1 hlt1)
  go_loopw [3, 10] (fun v i wr => ∃ k : Nat, k ≤ s.length ∧ i = .int .i64 k ∧ Own wr 5 v ((bareB (s.take k)).map bv) ∧ Fresh w.heap.size v ∧ Ext w wr) (fun _ i _ => s.length - (intOf i).toNat)
  case atStart => exact ⟨0, Nat.zero_le _, rfl, by simpa [bareB] using hown1, fun k hk => by have : w.heap.size = k := Option.some.inj hk; omega, hext1⟩
  case round =>
    obtain ⟨k, hk, rfl, p1, p2, p3⟩ := hrel
    by_cases hlt : k < s.length
    · have hbl : decide ((k : Int) < (s.length : Int)) = true := dtrue (by omega)
      have hsn := bare_snoc s hlt
      have hol := bare_len (s.take k)
      simp only [List.length_take] at hol
      obtain ⟨c, hck⟩ : ∃ c, c = s[k] := ⟨_, rfl⟩
      have hg : ∀ h', (⟨s.toArray⟩ : ByteArray)[k]'h' = c := fun h' => (sv_get s k hlt h').trans hck.symm
      rw [← hck] at hsn
      clear hck
      generalize bareB (s.take k) = o at *
      replace hsn := Lib.hid hsn
      have hn1 : o.length + 1 ≤ 140737488355328 := by omega
      replace hn1 := Lib.hid hn1
      by_cases h1 : c = 32
      · have b1 : ((c.toNat : Int) != 32) = false := by rw [h1]; rfl
        have hs2 : Hid (bareB (s.take (k + 1)) = o) := Lib.hid (by rw [hsn.out, if_pos (.inl h1)])
        clear hsn h1
        go_wp2_with fail
        exact ⟨⟨k + 1, by omega, by go_num, by rw [hs2.out]; exact p1, p2, p3⟩, by simp [intOf] <;> omega⟩
      have b1 : ((c.toNat : Int) != 32) = true := by
        rw [bne_iff_ne]
        intro e
        exact h1 (UInt8.toNat_inj.1 (by simpa using Int.ofNat_inj.1 e))
      by_cases h2 : c = 45
      · have b2 : ((c.toNat : Int) != 45) = false := by rw [h2]; rfl
        have hs2 : Hid (bareB (s.take (k + 1)) = o) := Lib.hid (by rw [hsn.out, if_pos (.inr h2)])
        clear hsn h1 h2
        go_wp2_with fail
        exact ⟨⟨k + 1, by omega, by go_num, by rw [hs2.out]; exact p1, p2, p3⟩, by simp [intOf] <;> omega⟩
      have b2 : ((c.toNat : Int) != 45) = true := by
        rw [bne_iff_ne]
        intro e
        exact h2 (UInt8.toNat_inj.1 (by simpa using Int.ofNat_inj.1 e))
      have hs2 : Hid (bareB (s.take (k + 1)) = o ++ [c]) := Lib.hid (by rw [hsn.out, if_neg (by simp [h1, h2])])
      clear hsn h1 h2
      obtain ⟨A, cc, rfl⟩ := p1.shape
      go_wp2_with ((with_reducible show wpList _ _ _ (⟨some 28, _, _, _, _, _⟩ :: _) _ _); refine wp_app1 tyB p1 (rfl : (c.toNat : Int) = (c.toNat : Int)) hn1.out rfl (.tmp 23) (.tmp 27) rfl rfl rfl ?_; intro v2 w2 k1 k2 k3)
      exact ⟨⟨k + 1, by omega, by go_num, by rw [hs2.out]; exact k1, k3.fresh p2 p3.size, ext_app0 p3 p2 k2⟩, by simp [intOf] <;> omega⟩
    · have hbl : decide ((k : Int) < (s.length : Int)) = false := dfalse (by omega)
      rw [List.take_of_length_le (by omega), ← hO.out] at p1
      have hcv := run_conv (P := Try.prog) (src := 65) (dst := 9) (e := 5) Try.underlying65 Try.underlying5 Try.underlying9 p1.sl
      go_wp2_with fail
      go_ret
      exact ⟨rfl, p3⟩
set_option maxHeartbeats 4000000 in
theorem text_any {w : World} (s : List UInt8) (hl : s.length ≤ 140737488351232) :
    Calls Try.prog 58 #[sv s] w fun e w' => e = .returned (.tuple #[sv (textB s).1, .bool (textB s).2]) ∧ Ext w w' := by
  have hc1 := fold_any (w := w) s hl
  have he := sv_empty s
  by_cases hs : s = []
  · subst hs
    clear hc1
    go_enter Try.func58, Try.ntmps58
    go_wp2_with fail
    go_ret2
    exact ⟨rfl, Mod.refl _ _⟩
  have hb : s.isEmpty = false := by cases s <;> simp at hs ⊢
  by_cases hf : foldB s = []
  · have hR : textB s = ([32], true) := by unfold textB normV; rw [if_neg hs, if_pos ⟨hf, hs⟩]
    rw [hR]
    rw [hf] at hc1
    clear hR hf hs
    go_enter Try.func58, Try.ntmps58
    go_wp2_with fail
    refine hc1.mono ?_
    rintro e w1 ⟨rfl, x1⟩
    clear hc1
    go_wp2_with fail
    go_ret2
    exact ⟨rfl, x1⟩
  · have hR : textB s = (foldB s, true) := by unfold textB normV; rw [if_neg hs, if_neg (fun h => hf h.1)]
    rw [hR]
    have hb2 : (foldB s).isEmpty = false := by cases h : foldB s <;> simp [h] at hf ⊢
    have he2 := sv_empty (foldB s)
    clear hR hf hs
    generalize foldB s = F at *
    go_enter Try.func58, Try.ntmps58
    go_wp2_with fail
    refine hc1.mono ?_
    rintro e w1 ⟨rfl, x1⟩
    clear hc1
    go_wp2_with fail
    go_ret2
    exact ⟨rfl, x1⟩
end Go.Proofs.Ytacmbomnjedbeaa
