/- match: Sub. -/
import Derived.Test.YtacmbomnjedbeaaMtE
import Derived.Test.YtacmbomnjedbeaaStrB
import Derived.Shelf.Vars
namespace Go.Proofs.Ytacmbomnjedbeaa
open Go.RowKit
set_option maxRecDepth 100000

theorem mids_two : ∀ (A B : List (List UInt8)) (s : List UInt8), midsF s (A ++ B) = (midsF s A).bind fun r => midsF r B
  | [], B, s => rfl
  | p :: A, B, s => by
    simp only [List.cons_append, midsF]
    cases cutO s p with
    | none => rfl
    | some r => exact mids_two A B r
theorem mids_step {s r : List UInt8} {M : List (List UInt8)} {j : Nat} (hj : j < M.length) (h : midsF s (M.take j) = some r) : midsF s (M.take (j + 1)) = cutO r M[j] := by
  rw [List.take_succ_eq_append_getElem hj, mids_two, h]
  simp only [Option.bind_some, midsF]
  cases cutO r M[j] <;> rfl
theorem mids_stop {s r : List UInt8} {M : List (List UInt8)} {j : Nat} (hj : j < M.length) (h : midsF s (M.take j) = some r) (hn : cutO r M[j] = none) : midsF s M = none := by
  have h1 := mids_step hj h
  rw [← List.take_append_drop (j + 1) M, mids_two, h1, hn]
  rfl
theorem cutO_len {s p r : List UInt8} (h : cutO s p = some r) : r.length ≤ s.length := by
  obtain ⟨x, h1, _⟩ := cutO_some h
  rw [h1]
  simp only [List.length_append]
  omega
def midsL (k : Int) (L : List (List UInt8)) : List (List UInt8) := ((L.drop 1).take (L.length - 2)).map (pieceM k)
theorem midsL_len (k : Int) (L : List (List UInt8)) : (midsL k L).length = L.length - 2 := by
  unfold midsL
  rw [List.length_map, List.length_take, List.length_drop]
  omega
theorem midsL_get (k : Int) (L : List (List UInt8)) {j : Nat} (hj' : j < (midsL k L).length) (h2 : 1 + j < L.length) : (midsL k L)[j] = pieceM k L[1 + j] := by
  simp only [midsL, List.getElem_map, List.getElem_take, List.getElem_drop]
theorem getD_x (L : List (List UInt8)) {k : Nat} (h : k < L.length) : L.getD k [] = L[k] := by rw [List.getD_eq_getElem?_getD, List.getElem?_eq_getElem h]; rfl
section
variable {w : World} {S : Nat → Prop} {v : Value}
end
end Go.Proofs.Ytacmbomnjedbeaa
namespace Go.Proofs.Ytacmbomnjedbeaa
open Go.RowKit
set_option maxRecDepth 100000

theorem mxl_of {W : World} (h : W.ShapedOpen Try.prog) : Mxl W := Go.Proofs.cell_of_shapedOpen_int (zero := #[.int .i64 0]) (t := 3) h (of_decide_eq_true (by kernel_rfl)) (by kernel_rfl) rfl (by kernel_rfl) (by kernel_rfl) Try.underlying3
def hvy (n : Nat) (L : List (List UInt8)) : Prop := ∀ x ∈ L, x.length ≤ n
def Hv15 (L : List (List UInt8)) (w : World) (e : Ending) (w' : World) : Prop := ∃ q : Bool, e = .returned (.bool q) ∧ (q = false → hvy 1500 L) ∧ w' = w
section
variable {w : World} {S : Nat → Prop} {v : Value}
abbrev kJohn : List UInt8 := [74, 111, 104, 110, 32, 83, 109, 105, 116, 104]
abbrev kSubs : List (List UInt8) := [[106, 111], [110, 32, 115], [116, 104]]
theorem sub_john : subM 1 kJohn kSubs = (true, true) := by decide +kernel
theorem equal_ab : equalM 1 [32, 65, 32, 32, 98] [97, 32, 66] = true := by decide +kernel
theorem ss_one (w : World) (s : List UInt8) : Ss (w.alloc (.cells #[sv s] 9)) (fun k => k = w.heap.size) (.slice (some ⟨w.heap.size, 0, none⟩) 1 1) [s] := Sl.one w 9 (sv s)
theorem sub_bytes {s : List UInt8} {L : List (List UInt8)} (hs : s.length ≤ 256) (h1 : 2 ≤ L.length) (h2 : L.length ≤ 16) : subM 4 s L = (hasP s (L.getD 0 []) ((L.drop 1).take (L.length - 2)) (L.getD (L.length - 1) []), true) := by
  have hn : normM 4 s = (s, true) := by rw [normM_short hs]; rfl
  have hp : pieceM 4 = id := rfl
  unfold subM hasM
  rw [hn, if_neg (by rintro (h | h | h | h) <;> first | cases h; done | omega), hp, List.map_id]
  rfl
theorem whole1 (s : List UInt8) (hs : s.length ≤ 256) : subM 4 s [s, []] = (true, true) := by
  rw [sub_bytes hs (by simp) (by simp)]
  simp [hasP, midsF]
theorem whole2 (s : List UInt8) (hs : s.length ≤ 256) : subM 4 s [[], s] = (true, true) := by
  rw [sub_bytes hs (by simp) (by simp)]
  simp [hasP, midsF]
theorem whole3 (s : List UInt8) (hs : s.length ≤ 256) (f t : Nat) (hf : f < t) (_ht : t ≤ s.length) : subM 4 s [[], (s.drop f).take (t - f), []] = (true, true) := by
  rw [sub_bytes hs (by simp) (by simp)]
  obtain ⟨r, h1, _⟩ := mids_has (s := s) (p := (s.drop f).take (t - f)) (y := s.take f) (z := s.drop t) (ps := []) (r0 := s.drop t) (by
    rw [List.append_assoc]
    have h2 : (s.drop f).take (t - f) ++ s.drop t = s.drop f := by
      have h3 : s.drop t = (s.drop f).drop (t - f) := by rw [List.drop_drop, show f + (t - f) = t by omega]
      rw [h3, List.take_append_drop]
    rw [h2, List.take_append_drop]) rfl
  have e : hasP s [] [(s.drop f).take (t - f)] [] = true := by
    unfold hasP
    simp only [List.length_nil, List.drop_zero, h1]
    simp
  exact congrArg (fun b => (b, true)) e
theorem whole4 (s : List UInt8) (hs : s.length ≤ 256) : subM 4 s [s, [120]] = (false, true) := by
  rw [sub_bytes hs (by simp) (by simp)]
  simp [hasP, midsF]
end
end Go.Proofs.Ytacmbomnjedbeaa
namespace Go.Proofs.Ytacmbomnjedbeaa
open Go.RowKit
set_option maxRecDepth 100000

theorem body_cons (c : UInt8) (d : List UInt8) : bodyN (c :: d) = if c = 45 then d else c :: d := rfl
section
variable {w : World}
set_option maxHeartbeats 8000000 in
theorem rnumber_any (s : List UInt8) (hs : s.length ≤ 140737488351232) :
    Calls Try.prog 28 #[sv s] w fun e w' => e = .returned (.tuple #[sv (numB s).1, .bool (numB s).2]) ∧ w' = w := by
  have hsz := sv_size s
  have hes := sv_empty s
  by_cases h0 : s = []
  · subst h0
    have hR : numB [] = ([], false) := rfl
    rw [hR]
    go_enter Try.func28, Try.ntmps28
    go_wp2_with fail
    go_ret2
    exact ⟨rfl, rfl⟩
  have hbe : s.isEmpty = false := by cases s <;> simp at h0 ⊢
  have hpos : 0 < s.length := List.length_pos_iff.2 h0
  obtain ⟨R, hR⟩ : ∃ R, R = numB s := ⟨_, rfl⟩
  rw [← hR]
  obtain ⟨cs, hcs⟩ : ∃ cs, cs = s[0] := ⟨_, rfl⟩
  have hgs : ∀ h', (⟨s.toArray⟩ : ByteArray)[0]'h' = cs := fun h' => (sv_get s 0 hpos h').trans hcs.symm
  have hb45 : ((cs.toNat : Int) == 45) = decide (cs = 45) := by
    rw [Bool.eq_iff_iff, beq_iff_eq, decide_eq_true_iff]
    exact ⟨fun e => UInt8.toNat_inj.1 (by simpa using Int.ofNat_inj.1 e), fun e => by rw [e]; rfl⟩
  have hcons : s = cs :: s.drop 1 := by rw [hcs, ← List.drop_eq_getElem_cons hpos, List.drop_zero]
  have hi0 : (0 : Int) < (s.length : Int) := by omega
  have hi1 : (1 : Int) ≤ (s.length : Int) := by omega
  by_cases h45 : cs = 45
  · obtain ⟨d, hd⟩ : ∃ d, d = bodyN s := ⟨_, rfl⟩
    have hd2 : d = s.drop 1 := by
      rw [hd]
      conv => lhs; rw [hcons, body_cons, if_pos h45]
    have hno := fun h => hR.trans (isNum_no hd h)
    have hyes := fun h1 h2 h3 h4 => hR.trans (isNum_yes hd h1 h2 h3 h4)
    have hex := ext_sv s 1 s.length
    rw [List.take_of_length_le (by rw [List.length_drop]; omega), ← hd2] at hex
    rw [decide_eq_true h45] at hb45
    replace hno := Lib.hid hno
    replace hyes := Lib.hid hyes
    have hdz := sv_size d
    clear hR hd hd2 hcons h45 hcs h0
    go_enter Try.func28, Try.ntmps28
    by_cases h1 : d.length < 1
    · have hb : decide ((d.length : Int) < 1) = true := dtrue (by omega)
      obtain rfl := hno.out (.inl h1)
      go_wp2_with fail
      go_ret2
      exact ⟨rfl, rfl⟩
    have hb : decide ((d.length : Int) < 1) = false := dfalse (by omega)
    by_cases h2 : 18 < d.length
    · have hb2 : decide ((18 : Int) < (d.length : Int)) = true := dtrue (by omega)
      obtain rfl := hno.out (.inr (.inl h2))
      go_wp2_with fail
      go_ret2
      exact ⟨rfl, rfl⟩
    have hb2 : decide ((18 : Int) < (d.length : Int)) = false := dfalse (by omega)
    have hdpos : 0 < d.length := by omega
    have h0 : d.getD 0 0 = d[0] := getD_at d hdpos
    obtain ⟨c0, hc0⟩ : ∃ c0, c0 = d[0] := ⟨_, rfl⟩
    have hg0 : ∀ h', (⟨d.toArray⟩ : ByteArray)[0]'h' = c0 := fun h' => (sv_get d 0 hdpos h').trans hc0.symm
    rw [h0, ← hc0] at hno hyes
    have hi00 : (0 : Int) < (d.length : Int) := by omega
    clear h0 hc0
    have hz48 : ((c0.toNat : Int) == 48) = decide (c0 = 48) := by
      rw [Bool.eq_iff_iff, beq_iff_eq, decide_eq_true_iff]
      exact ⟨fun e => UInt8.toNat_inj.1 (by simpa using Int.ofNat_inj.1 e), fun e => by rw [e]; rfl⟩
    by_cases hbad : c0 = 48 ∧ 1 < s.length
    · have hb3 : ((c0.toNat : Int) == 48) = true := by rw [hz48]; exact decide_eq_true hbad.1
      have hb4 : decide ((1 : Int) < (s.length : Int)) = true := dtrue (by omega)
      obtain rfl := hno.out (.inr (.inr (.inr hbad)))
      clear hz48 hbad hno hyes
      go_wp2_with fail
      go_ret2
      exact ⟨rfl, rfl⟩
    have hb34 : (((c0.toNat : Int) == 48) = false) ∨ (((c0.toNat : Int) == 48) = true ∧ decide ((1 : Int) < (s.length : Int)) = false) := by
      by_cases h : c0 = 48
      · exact .inr ⟨by rw [hz48]; exact decide_eq_true h, dfalse (fun hh => hbad ⟨h, by omega⟩)⟩
      · exact .inl (by rw [hz48]; exact decide_eq_false h)
    clear hz48
    rcases hb34 with hb3 | ⟨hb3, hb4⟩
    all_goals
      go_wp2_with fail
      go_loop [5] (fun i => ∃ k : Nat, k ≤ d.length ∧ i = .int .i64 k ∧ Hid ((d.take k).all digB9 = true)) (fun i => d.length - (intOf i).toNat)
      case atStart => exact ⟨0, Nat.zero_le _, rfl, Lib.hid (by simp)⟩
      case round =>
        obtain ⟨k, hk, rfl, hall⟩ := hrel
        by_cases hlt : k < d.length
        · have hbl : decide ((k : Int) < (d.length : Int)) = true := dtrue (by omega)
          have hsn := all_snoc hlt
          have hnn := all_no hlt
          obtain ⟨c, hck⟩ : ∃ c, c = d[k] := ⟨_, rfl⟩
          have hg : ∀ h', (⟨d.toArray⟩ : ByteArray)[k]'h' = c := fun h' => (sv_get d k hlt h').trans hck.symm
          have hki0 : (0 : Int) ≤ (k : Int) := by omega
          have hki1 : (k : Int) < (d.length : Int) := by omega
          rw [← hck] at hsn hnn
          clear hck
          have hdc : digB9 c = decide (48 ≤ c.toNat ∧ c.toNat ≤ 57) := rfl
          by_cases hlo : c.toNat < 48
          · have b1 : decide ((c.toNat : Int) < 48) = true := dtrue (by omega)
            obtain rfl := hno.out (.inr (.inr (.inl (hnn (by rw [hdc]; exact decide_eq_false (by omega))))))
            clear hsn hnn hdc
            go_wp2_with fail
            go_ret2
            exact ⟨rfl, rfl⟩
          have b1 : decide ((c.toNat : Int) < 48) = false := dfalse (by omega)
          by_cases hhi : 57 < c.toNat
          · have b2 : decide ((57 : Int) < (c.toNat : Int)) = true := dtrue (by omega)
            obtain rfl := hno.out (.inr (.inr (.inl (hnn (by rw [hdc]; exact decide_eq_false (by omega))))))
            clear hsn hnn hdc
            go_wp2_with fail
            go_ret2
            exact ⟨rfl, rfl⟩
          have b2 : decide ((57 : Int) < (c.toNat : Int)) = false := dfalse (by omega)
          have hx : Hid ((d.take (k + 1)).all digB9 = true) := Lib.hid (by rw [hsn, hall.out, hdc]; simp; omega)
          clear hsn hnn hdc
          go_wp2_with fail
          go_round
          case rel => exact ⟨k + 1, by omega, by go_num, hx⟩
          case measure => simp [intOf]; omega
        · have hbl : decide ((k : Int) < (d.length : Int)) = false := dfalse (by omega)
          have ha2 : Hid (d.all digB9 = true) := Lib.hid (by have := hall.out; rwa [List.take_of_length_le (by omega)] at this)
          have hx := hyes.out (by omega) (by omega) ha2.out hbad
          subst hx
          clear hall hno hyes ha2
          go_wp2_with fail
          go_ret2
          exact ⟨rfl, rfl⟩
  · have hd : s = bodyN s := by
      conv => rhs; rw [hcons, body_cons, if_neg h45, ← hcons]
    have hno := fun h => hR.trans (isNum_no hd h)
    have hyes := fun h1 h2 h3 h4 => hR.trans (isNum_yes hd h1 h2 h3 h4)
    rw [decide_eq_false h45] at hb45
    replace hno := Lib.hid hno
    replace hyes := Lib.hid hyes
    clear hR hd hcons h45 h0
    replace hcs := Lib.hid hcs
    go_enter Try.func28, Try.ntmps28
    by_cases h1 : s.length < 1
    · have hb : decide ((s.length : Int) < 1) = true := dtrue (by omega)
      obtain rfl := hno.out (.inl h1)
      go_wp2_with fail
      go_ret2
      exact ⟨rfl, rfl⟩
    have hb : decide ((s.length : Int) < 1) = false := dfalse (by omega)
    by_cases h2 : 18 < s.length
    · have hb2 : decide ((18 : Int) < (s.length : Int)) = true := dtrue (by omega)
      obtain rfl := hno.out (.inr (.inl h2))
      go_wp2_with fail
      go_ret2
      exact ⟨rfl, rfl⟩
    have hb2 : decide ((18 : Int) < (s.length : Int)) = false := dfalse (by omega)
    have hdpos : 0 < s.length := by omega
    have h0 : s.getD 0 0 = s[0] := getD_at s hdpos
    obtain ⟨c0, hc0⟩ : ∃ c0, c0 = s[0] := ⟨_, rfl⟩
    have hg0 : ∀ h', (⟨s.toArray⟩ : ByteArray)[0]'h' = c0 := fun h' => (sv_get s 0 hdpos h').trans hc0.symm
    rw [h0, ← hc0] at hno hyes
    have hi00 : (0 : Int) < (s.length : Int) := by omega
    obtain rfl : c0 = cs := hc0.trans hcs.out.symm
    clear h0 hc0 hcs
    have hz48 : ((c0.toNat : Int) == 48) = decide (c0 = 48) := by
      rw [Bool.eq_iff_iff, beq_iff_eq, decide_eq_true_iff]
      exact ⟨fun e => UInt8.toNat_inj.1 (by simpa using Int.ofNat_inj.1 e), fun e => by rw [e]; rfl⟩
    by_cases hbad : c0 = 48 ∧ 1 < s.length
    · have hb3 : ((c0.toNat : Int) == 48) = true := by rw [hz48]; exact decide_eq_true hbad.1
      have hb4 : decide ((1 : Int) < (s.length : Int)) = true := dtrue (by omega)
      obtain rfl := hno.out (.inr (.inr (.inr hbad)))
      clear hz48 hbad hno hyes
      go_wp2_with fail
      go_ret2
      exact ⟨rfl, rfl⟩
    have hb34 : (((c0.toNat : Int) == 48) = false) ∨ (((c0.toNat : Int) == 48) = true ∧ decide ((1 : Int) < (s.length : Int)) = false) := by
      by_cases h : c0 = 48
      · exact .inr ⟨by rw [hz48]; exact decide_eq_true h, dfalse (fun hh => hbad ⟨h, by omega⟩)⟩
      · exact .inl (by rw [hz48]; exact decide_eq_false h)
    clear hz48
    rcases hb34 with hb3 | ⟨hb3, hb4⟩
    all_goals
      go_wp2_with fail
      go_loop [5] (fun i => ∃ k : Nat, k ≤ s.length ∧ i = .int .i64 k ∧ Hid ((s.take k).all digB9 = true)) (fun i => s.length - (intOf i).toNat)
      case atStart => exact ⟨0, Nat.zero_le _, rfl, Lib.hid (by simp)⟩
      case round =>
        obtain ⟨k, hk, rfl, hall⟩ := hrel
        by_cases hlt : k < s.length
        · have hbl : decide ((k : Int) < (s.length : Int)) = true := dtrue (by omega)
          have hsn := all_snoc hlt
          have hnn := all_no hlt
          obtain ⟨c, hck⟩ : ∃ c, c = s[k] := ⟨_, rfl⟩
          have hg : ∀ h', (⟨s.toArray⟩ : ByteArray)[k]'h' = c := fun h' => (sv_get s k hlt h').trans hck.symm
          have hki0 : (0 : Int) ≤ (k : Int) := by omega
          have hki1 : (k : Int) < (s.length : Int) := by omega
          rw [← hck] at hsn hnn
          clear hck
          have hdc : digB9 c = decide (48 ≤ c.toNat ∧ c.toNat ≤ 57) := rfl
          by_cases hlo : c.toNat < 48
          · have b1 : decide ((c.toNat : Int) < 48) = true := dtrue (by omega)
            obtain rfl := hno.out (.inr (.inr (.inl (hnn (by rw [hdc]; exact decide_eq_false (by omega))))))
            clear hsn hnn hdc
            go_wp2_with fail
            go_ret2
            exact ⟨rfl, rfl⟩
          have b1 : decide ((c.toNat : Int) < 48) = false := dfalse (by omega)
          by_cases hhi : 57 < c.toNat
          · have b2 : decide ((57 : Int) < (c.toNat : Int)) = true := dtrue (by omega)
            obtain rfl := hno.out (.inr (.inr (.inl (hnn (by rw [hdc]; exact decide_eq_false (by omega))))))
            clear hsn hnn hdc
            go_wp2_with fail
            go_ret2
            exact ⟨rfl, rfl⟩
          have b2 : decide ((57 : Int) < (c.toNat : Int)) = false := dfalse (by omega)
          have hx : Hid ((s.take (k + 1)).all digB9 = true) := Lib.hid (by rw [hsn, hall.out, hdc]; simp; omega)
          clear hsn hnn hdc
          go_wp2_with fail
          go_round
          case rel => exact ⟨k + 1, by omega, by go_num, hx⟩
          case measure => simp [intOf]; omega
        · have hbl : decide ((k : Int) < (s.length : Int)) = false := dfalse (by omega)
          have ha2 : Hid (s.all digB9 = true) := Lib.hid (by have := hall.out; rwa [List.take_of_length_le (by omega)] at this)
          have hx := hyes.out (by omega) (by omega) ha2.out hbad
          subst hx
          clear hall hno hyes ha2
          go_wp2_with fail
          go_ret2
          exact ⟨rfl, rfl⟩
set_option maxHeartbeats 4000000 in
theorem rbare_any (s : List UInt8) (hl : s.length ≤ 140737488351232) :
    Calls Try.prog 32 #[sv s] w fun e w' => e = .returned (sv (bareB s)) ∧ Ext w w' := by
  have hsz := sv_size s
  obtain ⟨O, hO⟩ : ∃ O, O = bareB s := ⟨_, rfl⟩
  rw [← hO]
  replace hO := Lib.hid hO
  go_enter Try.func32, Try.ntmps32
  go_wp2_with fail
  go_loopw [3, 4] (fun v i wr => ∃ k : Nat, k ≤ s.length ∧ i = .int .i64 k ∧ Own wr 5 v ((bareB (s.take k)).map bv) ∧ Fresh w.heap.size v ∧ Ext w wr) (fun _ i _ => s.length - (intOf i).toNat)
  case atStart => exact ⟨0, Nat.zero_le _, rfl, by simpa [bareB] using Own.nil _ _, fresh_nil _ _ _, Mod.refl _ _⟩
  case round =>
    obtain ⟨k, hk, rfl, p1, p2, p3⟩ := hrel
    by_cases hlt : k < s.length
    · have hbl : decide ((k : Int) < (s.length : Int)) = true := dtrue (by omega)
      have hsn := bare_snoc s hlt
      have hol := bare_len (s.take k)
      simp only [List.length_take] at hol
      have hki0 : (0 : Int) ≤ (k : Int) := by omega
      have hki1 : (k : Int) < (s.length : Int) := by omega
      obtain ⟨c, hck⟩ : ∃ c, c = s[k] := ⟨_, rfl⟩
      have hg : ∀ h', (⟨s.toArray⟩ : ByteArray)[k]'h' = c := fun h' => (sv_get s k hlt h').trans hck.symm
      rw [← hck] at hsn
      clear hck
      generalize bareB (s.take k) = o at *
      replace hsn := Lib.hid hsn
      have hn1 : o.length + 1 ≤ 140737488355328 := by omega
      replace hn1 := Lib.hid hn1
      by_cases h1 : c = 32
      · have b1 : ((c.toNat : Int) != 32) = false := by rw [h1]; rfl
        have hs2 : Hid (bareB (s.take (k + 1)) = o) := Lib.hid (by rw [hsn.out, if_pos (.inl h1)])
        clear hsn h1
        go_wp2_with fail
        exact ⟨⟨k + 1, by omega, by go_num, by rw [hs2.out]; exact p1, p2, p3⟩, by simp [intOf] <;> omega⟩
      have b1 : ((c.toNat : Int) != 32) = true := by
        rw [bne_iff_ne]
        intro e
        exact h1 (UInt8.toNat_inj.1 (by simpa using Int.ofNat_inj.1 e))
      by_cases h2 : c = 45
      · have b2 : ((c.toNat : Int) != 45) = false := by rw [h2]; rfl
        have hs2 : Hid (bareB (s.take (k + 1)) = o) := Lib.hid (by rw [hsn.out, if_pos (.inr h2)])
        clear hsn h1 h2
        go_wp2_with fail
        exact ⟨⟨k + 1, by omega, by go_num, by rw [hs2.out]; exact p1, p2, p3⟩, by simp [intOf] <;> omega⟩
      have b2 : ((c.toNat : Int) != 45) = true := by
        rw [bne_iff_ne]
        intro e
        exact h2 (UInt8.toNat_inj.1 (by simpa using Int.ofNat_inj.1 e))
      have hs2 : Hid (bareB (s.take (k + 1)) = o ++ [c]) := Lib.hid (by rw [hsn.out, if_neg (by simp [h1, h2])])
      clear hsn h1 h2
      obtain ⟨A, cc, rfl⟩ := p1.shape
      go_wp2_with ((with_reducible show wpList _ _ _ (⟨some 26, _, _, _, _, _⟩ :: _) _ _); refine wp_app1 tyB p1 (rfl : (c.toNat : Int) = (c.toNat : Int)) hn1.out rfl (.tmp 21) (.tmp 25) rfl rfl rfl ?_; intro v2 w2 k1 k2 k3)
      exact ⟨⟨k + 1, by omega, by go_num, by rw [hs2.out]; exact k1, k3.fresh p2 p3.size, ext_app0 p3 p2 k2⟩, by simp [intOf] <;> omega⟩
    · have hbl : decide ((k : Int) < (s.length : Int)) = false := dfalse (by omega)
      rw [List.take_of_length_le (by omega), ← hO.out] at p1
      have hcv := run_conv (P := Try.prog) (src := 65) (dst := 9) (e := 5) Try.underlying65 Try.underlying5 Try.underlying9 p1.sl
      go_wp2_with fail
      go_ret
      exact ⟨rfl, p3⟩
set_option maxHeartbeats 4000000 in
theorem rmnorm_any (k : Int) (s : List UInt8) (hs : s.length ≤ 140737488351232) :
    Calls Try.prog 12 #[.int .i64 k, sv s] w fun e w' => e = .returned (.tuple #[sv (normM k s).1, .bool (normM k s).2]) ∧ Ext w w' := by
  have hsz := sv_size s
  have hes := sv_empty s
  by_cases hl : 256 < s.length
  · have hb : decide ((256 : Int) < (s.length : Int)) = true := dtrue (by omega)
    have hR : normM k s = ([], false) := by unfold normM; rw [if_pos hl]
    rw [hR]
    clear hR
    go_enter Try.func12, Try.ntmps12
    go_wp2_with fail
    go_ret2
    exact ⟨rfl, Mod.refl _ _⟩
  have hb : decide ((256 : Int) < (s.length : Int)) = false := dfalse (by omega)
  rw [normM_short (by omega)]
  by_cases h1 : k = 1
  · rw [if_pos h1]
    subst h1
    have hc := rfold_any (w := w) s hs
    by_cases h0 : s = []
    · subst h0
      have hR : textB [] = ([], false) := rfl
      rw [hR]
      go_enter Try.func12, Try.ntmps12
      go_wp2_with fail
      refine hc.mono ?_
      rintro e w1 ⟨rfl, x1⟩
      clear hc
      go_wp2_with fail
      go_ret2
      exact ⟨rfl, x1⟩
    have hbe : s.isEmpty = false := by cases s <;> simp at h0 ⊢
    by_cases hf : foldB s = []
    · have hR : textB s = ([32], true) := by unfold textB normV; rw [if_neg h0, if_pos ⟨hf, h0⟩]
      rw [hR]
      rw [hf] at hc
      clear hR hf h0
      go_enter Try.func12, Try.ntmps12
      go_wp2_with fail
      refine hc.mono ?_
      rintro e w1 ⟨rfl, x1⟩
      clear hc
      go_wp2_with fail
      go_ret2
      exact ⟨rfl, x1⟩
    · have hR : textB s = (foldB s, true) := by unfold textB normV; rw [if_neg h0, if_neg (fun h => hf h.1)]
      rw [hR]
      have hb2 : (foldB s).isEmpty = false := by cases h : foldB s <;> simp [h] at hf ⊢
      have he2 := sv_empty (foldB s)
      clear hR hf h0
      generalize foldB s = F at *
      go_enter Try.func12, Try.ntmps12
      go_wp2_with fail
      refine hc.mono ?_
      rintro e w1 ⟨rfl, x1⟩
      clear hc
      go_wp2_with fail
      go_ret2
      exact ⟨rfl, x1⟩
  have b1 : (k == 1) = false := by simpa using h1
  rw [if_neg h1]
  by_cases h2 : k = 2
  · rw [if_pos h2]
    subst h2
    have hc := rnumber_any (w := w) s hs
    generalize numB s = R at *
    go_enter Try.func12, Try.ntmps12
    go_wp2_with fail
    refine hc.mono ?_
    rintro e w1 ⟨rfl, rfl⟩
    clear hc
    go_wp2_with fail
    go_ret2
    exact ⟨rfl, Mod.refl _ _⟩
  have b2 : (k == 2) = false := by simpa using h2
  rw [if_neg h2]
  by_cases h3 : k = 3
  · rw [if_pos h3]
    subst h3
    have hc := qparse_any (w := w) s (by omega)
    have hn := parse_name (s := s)
    unfold nameB
    generalize parseB s = q at *
    obtain ⟨L, n⟩ := q
    by_cases h0 : n = 0
    · subst h0
      have hi := hn rfl
      have hw := name_wN hi
      have hw2 := norm_wN L
      rw [if_pos rfl]
      clear hn hi
      simp only at hc
      go_enter Try.func12, Try.ntmps12
      go_wp2_with fail
      refine hc.mono ?_
      rintro e w1 ⟨v1, rfl, o1, f1, x1⟩
      clear hc
      have hc2 := rnorm_any (o1.rc.mono fun k hk h => hk) (fits_of (by omega))
      go_wp2_with fail
      refine hc2.mono ?_
      rintro e w2 ⟨v2, rfl, o2, f2, x2⟩
      clear hc2
      have hc3 := rprint_any o2.rc (by omega)
      go_wp2_with fail
      refine hc3.mono ?_
      rintro e w3 ⟨rfl, x3⟩
      clear hc3
      go_wp2_with fail
      go_ret2
      exact ⟨rfl, ext_trans x1 (ext_trans x2 x3)⟩
    · rw [if_neg h0]
      have b0 : ((n : Int) != 0) = true := by rw [bne_iff_ne]; omega
      clear hn
      simp only at hc
      go_enter Try.func12, Try.ntmps12
      go_wp2_with fail
      refine hc.mono ?_
      rintro e w1 ⟨v1, rfl, o1, f1, x1⟩
      clear hc
      go_wp2_with fail
      go_ret2
      exact ⟨rfl, x1⟩
  have b3 : (k == 3) = false := by simpa using h3
  rw [if_neg h3]
  by_cases h4 : k = 4
  · rw [if_pos h4]
    subst h4
    go_enter Try.func12, Try.ntmps12
    go_wp2_with fail
    go_ret2
    exact ⟨rfl, Mod.refl _ _⟩
  have b4 : (k == 4) = false := by simpa using h4
  rw [if_neg h4]
  by_cases h5 : k = 5
  · rw [if_pos h5]
    subst h5
    have hc := fun wx : World => rbare_any (w := wx) s hs
    generalize bareB s = R at *
    have he := sv_empty R
    by_cases hR : R = []
    · subst hR
      go_enter Try.func12, Try.ntmps12
      go_wp2_with fail
      refine (hc w).mono ?_
      rintro e w1 ⟨rfl, x1⟩
      go_wp2_with fail
      refine (hc w1).mono ?_
      rintro e w2 ⟨rfl, x2⟩
      clear hc
      go_wp2_with fail
      go_ret2
      exact ⟨rfl, ext_trans x1 x2⟩
    · have bR : R.isEmpty = false := by cases R <;> simp at hR ⊢
      rw [decide_eq_false hR]
      clear hR
      go_enter Try.func12, Try.ntmps12
      go_wp2_with fail
      refine (hc w).mono ?_
      rintro e w1 ⟨rfl, x1⟩
      go_wp2_with fail
      refine (hc w1).mono ?_
      rintro e w2 ⟨rfl, x2⟩
      clear hc
      go_wp2_with fail
      go_ret2
      exact ⟨rfl, ext_trans x1 x2⟩
  have b5 : (k == 5) = false := by simpa using h5
  rw [if_neg h5]
  go_enter Try.func12, Try.ntmps12
  go_wp2_with fail
  go_ret2
  exact ⟨rfl, Mod.refl _ _⟩
end
end Go.Proofs.Ytacmbomnjedbeaa
