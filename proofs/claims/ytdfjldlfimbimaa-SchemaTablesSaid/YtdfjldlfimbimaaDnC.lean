/- dn: letters, types. -/
import Derived.Test.YtdfjldlfimbimaaRecB
import Derived.Test.YtdfjldlfimbimaaOctR
namespace Go.Proofs.Ytdfjldlfimbimaa
open Go.RowKit
set_option maxRecDepth 100000

theorem sv_get (l : List UInt8) (k : Nat) (_h : k < l.length) (h' : k < (⟨l.toArray⟩ : ByteArray).size) : (⟨l.toArray⟩ : ByteArray)[k]'h' = l[k] := by
  show l.toArray[k] = l[k]
  simp
theorem sv_size (l : List UInt8) : (⟨l.toArray⟩ : ByteArray).size = l.length := by
  show l.toArray.size = l.length
  simp
theorem sv_list (l : List UInt8) : (⟨l.toArray⟩ : ByteArray).toList = l := by
  simp
theorem bool_eq {p : Prop} [Decidable p] {b : Bool} (h : b = true ↔ p) : b = decide p := by
  rw [Bool.eq_iff_iff, decide_eq_true_eq]; exact h

theorem ret_bool {b : Bool} {p : Prop} [Decidable p] {w w' : World} (h : b = true ↔ p) (hw : w' = w) : Ending.returned (.bool b) = .returned (.bool (decide p)) ∧ w' = w := ⟨by rw [bool_eq h], hw⟩

def letN (p : Nat) : Prop := (97 ≤ p ∧ p ≤ 122) ∨ (65 ≤ p ∧ p ≤ 90)
instance (p : Nat) : Decidable (letN p) := inferInstanceAs (Decidable (_ ∨ _))
def typN (p : Nat) : Prop := letN p ∨ (48 ≤ p ∧ p ≤ 57) ∨ p = 45
instance (p : Nat) : Decidable (typN p) := inferInstanceAs (Decidable (_ ∨ _))
/-- Is a text a type? -/
def isTyp (s : List UInt8) : Prop := 1 ≤ s.length ∧ s.length ≤ 32 ∧ letN (s.getD 0 0).toNat ∧ ∀ b ∈ s, typN b.toNat
instance (s : List UInt8) : Decidable (isTyp s) := inferInstanceAs (Decidable (_ ∧ _))

end Go.Proofs.Ytdfjldlfimbimaa
namespace Go.Proofs.Ytdfjldlfimbimaa
open Go.RowKit
set_option maxRecDepth 100000

theorem ret_no {p : Prop} [Decidable p] {w w' : World} (h : ¬ p) (hw : w' = w) : Ending.returned (.bool false) = .returned (.bool (decide p)) ∧ w' = w := ⟨by rw [decide_eq_false h], hw⟩
theorem ret_yes {p : Prop} [Decidable p] {w w' : World} (h : p) (hw : w' = w) : Ending.returned (.bool true) = .returned (.bool (decide p)) ∧ w' = w := ⟨by rw [decide_eq_true h], hw⟩
theorem dtrue {p : Prop} [Decidable p] (h : p) : decide p = true := decide_eq_true h
theorem dfalse {p : Prop} [Decidable p] (h : ¬ p) : decide p = false := decide_eq_false h
theorem getD_at (s : List UInt8) {k : Nat} (h : k < s.length) : s.getD k 0 = s[k] := by rw [List.getD_eq_getElem?_getD, List.getElem?_eq_getElem h]; rfl

end Go.Proofs.Ytdfjldlfimbimaa
namespace Go.Proofs.Ytdfjldlfimbimaa
open Go.RowKit
set_option maxRecDepth 100000

def low (b : UInt8) : UInt8 := if 65 ≤ b.toNat ∧ b.toNat ≤ 90 then b + 32 else b
def fstep (o : List UInt8) (b : UInt8) : List UInt8 := if low b = 32 ∧ (o = [] ∨ o.getLast? = some 32) then o else o ++ [low b]
def fcut (o : List UInt8) : List UInt8 := if o.getLast? = some 32 then o.dropLast else o
/-- A text in which case and blanks do not count. -/
def foldB (s : List UInt8) : List UInt8 := fcut (s.foldl fstep [])
theorem fold_snoc (s : List UInt8) {k : Nat} (h : k < s.length) : (s.take (k + 1)).foldl fstep [] = fstep ((s.take k).foldl fstep []) s[k] := by
  rw [List.take_succ_eq_append_getElem h, List.foldl_append, List.foldl_cons, List.foldl_nil]
theorem fstep_len (o : List UInt8) (b : UInt8) : (fstep o b).length ≤ o.length + 1 := by
  unfold fstep; split <;> simp
theorem ffold_len (s : List UInt8) : ∀ o, (s.foldl fstep o).length ≤ o.length + s.length := by
  induction s with
  | nil => intro o; simp
  | cons b s ih => intro o; rw [List.foldl_cons]; have := ih (fstep o b); have := fstep_len o b; simp only [List.length_cons]; omega
theorem fcut_len (o : List UInt8) : (fcut o).length ≤ o.length := by
  unfold fcut; split <;> simp
theorem foldB_len (s : List UInt8) : (foldB s).length ≤ s.length := by
  have := fcut_len (s.foldl fstep []); have := ffold_len s []; unfold foldB; simp at *; omega
theorem low_up {b : UInt8} (h : 65 ≤ b.toNat ∧ b.toNat ≤ 90) : (low b).toNat = b.toNat + 32 := by
  unfold low
  rw [if_pos h, UInt8.toNat_add]
  show (b.toNat + 32) % 256 = _
  omega
theorem low_no {b : UInt8} (h : ¬ (65 ≤ b.toNat ∧ b.toNat ≤ 90)) : low b = b := by
  unfold low
  rw [if_neg h]
theorem last_get (o : List UInt8) (h : 0 < o.length) : o.getLast? = some o[o.length - 1] := by
  rw [List.getLast?_eq_getElem?, List.getElem?_eq_getElem (by omega)]
theorem fstep_out {o : List UInt8} {b : UInt8} (h : (low b).toNat ≠ 32) : fstep o b = o ++ [low b] := by
  unfold fstep
  rw [if_neg (fun hh => h (by rw [hh.1]; rfl))]
theorem fstep_out2 {o : List UInt8} {b : UInt8} {m : Nat} (hm : o.length = m + 1) (h : o[m].toNat ≠ 32) : fstep o b = o ++ [low b] := by
  unfold fstep
  rw [if_neg]
  rintro ⟨_, rfl | h2⟩
  · simp at hm
  · rw [last_get o (by omega)] at h2
    have : o[o.length - 1] = o[m] := by congr 1; omega
    rw [this] at h2
    exact h (by rw [Option.some.inj h2]; rfl)
theorem fstep_skip0 {b : UInt8} (h : low b = 32) : fstep [] b = [] := by
  unfold fstep
  rw [if_pos ⟨h, .inl rfl⟩]
theorem fstep_skip {o : List UInt8} {b : UInt8} {m : Nat} (hm : o.length = m + 1) (hb : low b = 32) (h : o[m].toNat = 32) : fstep o b = o := by
  unfold fstep
  rw [if_pos]
  refine ⟨hb, .inr ?_⟩
  rw [last_get o (by omega)]
  have : o[o.length - 1] = o[m] := by congr 1; omega
  rw [this]
  congr 1
  exact UInt8.toNat_inj.1 h
theorem fcut_no {o : List UInt8} {m : Nat} (hm : o.length = m + 1) (h : o[m].toNat ≠ 32) : fcut o = o := by
  unfold fcut
  rw [if_neg]
  rw [last_get o (by omega)]
  have : o[o.length - 1] = o[m] := by congr 1; omega
  rw [this]
  intro h2
  exact h (by rw [Option.some.inj h2]; rfl)
theorem fcut_yes {o : List UInt8} {m : Nat} (hm : o.length = m + 1) (h : o[m].toNat = 32) : fcut o = o.take m := by
  unfold fcut
  rw [if_pos]
  · rw [List.dropLast_eq_take, hm]; rfl
  · rw [last_get o (by omega)]
    have : o[o.length - 1] = o[m] := by congr 1; omega
    rw [this]
    congr 1
    exact UInt8.toNat_inj.1 h

set_option maxHeartbeats 4000000 in
theorem fold_any {w : World} (s : List UInt8) (hl : s.length ≤ 140737488351232) :
    Calls Try.prog 35 #[sv s] w fun e w' => e = .returned (sv (foldB s)) ∧ Ext w w' := by
  have hsz := sv_size s
  go_enter Try.func35, Try.ntmps35
  go_wp2_with ((with_reducible show wpList _ _ _ (⟨some 8, _, _, _, _, _⟩ :: _) _ _); refine wp_make0 tyB s.length rfl (.const _) (.tmp 7) rfl rfl rfl (by omega) ?_; intro w1 hown1 hext1 hlt1)
  go_loopw [3, 11] (fun v i wr => ∃ k : Nat, k ≤ s.length ∧ i = .int .i64 k ∧ Own wr 5 v (((s.take k).foldl fstep []).map bv) ∧ Fresh w.heap.size v ∧ Ext w wr) (fun _ i _ => s.length - (intOf i).toNat)
  case atStart => exact ⟨0, Nat.zero_le _, rfl, by simpa using hown1, fun k hk => by have : w.heap.size = k := Option.some.inj hk; omega, hext1⟩
  case round =>
    obtain ⟨k, hk, rfl, p1, p2, p3⟩ := hrel
    by_cases hlt : k < s.length
    · have hbl : decide ((k : Int) < (s.length : Int)) = true := dtrue (by omega)
      have hol := ffold_len (s.take k) []
      have hsn := fold_snoc s hlt
      obtain ⟨c, hck⟩ : ∃ c, c = s[k] := ⟨_, rfl⟩
      have hg : ∀ h', (⟨s.toArray⟩ : ByteArray)[k]'h' = c := fun h' => (sv_get s k hlt h').trans hck.symm
      rw [← hck] at hsn
      clear hck
      simp only [List.length_nil, List.length_take] at hol
      generalize (s.take k).foldl fstep [] = o at *
      replace hsn := Lib.hid hsn
      have hn1 : o.length + 1 ≤ 140737488355328 := by omega
      have hc8 := c.toNat_lt
      by_cases hup : 65 ≤ c.toNat ∧ c.toNat ≤ 90
      · have hlo := low_up hup
        have b1 : (65 : Int) ≤ (c.toNat : Int) := by omega
        have b2 : (c.toNat : Int) ≤ 90 := by omega
        have b3 : ((c.toNat : Int) + 32 == 32) = false := by rw [beq_eq_false_iff_ne]; omega
        have hx : (c.toNat : Int) + 32 = ((low c).toNat : Int) := by omega
        replace hsn := Lib.hid (hsn.out.trans (fstep_out (by omega)))
        clear hlo hup
        replace hx := Lib.hid hx
        replace hn1 := Lib.hid hn1
        obtain ⟨A, cc, rfl⟩ := p1.shape
        go_wp2_with ((with_reducible show wpList _ _ _ (⟨some 44, _, _, _, _, _⟩ :: _) _ _); refine wp_app1 tyB p1 hx.out hn1.out rfl (.tmp 41) (.tmp 43) rfl rfl rfl ?_; intro v2 w2 k1 k2 k3)
        exact ⟨⟨k + 1, by omega, by go_num, by rw [hsn.out]; exact k1, k3.fresh p2 p3.size, ext_app0 p3 p2 k2⟩, by simp [intOf] <;> omega⟩
      · have hlo := low_no hup
        have hb12 : ∃ q : Bool, decide ((65 : Int) ≤ (c.toNat : Int)) = q ∧ (q = true → decide ((c.toNat : Int) ≤ 90) = false) := ⟨_, rfl, fun h => dfalse (by have := of_decide_eq_true h; omega)⟩
        obtain ⟨q, b1, b2⟩ := hb12
        have hx : (c.toNat : Int) = ((low c).toNat : Int) := by rw [hlo]
        by_cases h32 : c.toNat = 32
        · obtain rfl : q = false := by rw [← b1]; exact dfalse (by omega)
          have b3 : ((c.toNat : Int) == 32) = true := by rw [h32]; rfl
          have hlow : low c = 32 := by rw [hlo]; exact UInt8.toNat_inj.1 h32
          have hlo32 : (low c).toNat = 32 := by rw [hlow]; rfl
          clear b2
          by_cases ho0 : o.length = 0
          · obtain rfl : o = [] := List.eq_nil_of_length_eq_zero ho0
            replace hsn := Lib.hid (hsn.out.trans (fstep_skip0 hlow))
            clear hlo hup h32 hlow hlo32 hx
            replace hn1 := Lib.hid hn1
            obtain ⟨A, cc, rfl⟩ := p1.shape
            go_wp2_with fail
            exact ⟨⟨k + 1, by omega, by go_num, by rw [hsn.out]; exact p1, p2, p3⟩, by simp [intOf] <;> omega⟩
          · obtain ⟨m, hm⟩ : ∃ m, o.length = m + 1 := ⟨o.length - 1, by omega⟩
            rcases p1.form with ⟨rfl, ho⟩ | ⟨g, cap, rfl, q1, q2, q3⟩
            · simp only [List.map_eq_nil_iff] at ho; subst ho; simp at hm
            have hcell := p1.cellAt (j := m) (by simp; omega)
            rw [List.length_map] at q1
            simp only [List.getElem_map] at hcell
            have hsk := fstep_skip (b := c) hm hlow
            have hou := fstep_out2 (b := c) hm
            generalize o[m] = d at *
            have bl : ((o.length : Int) == 0) = false := by rw [beq_eq_false_iff_ne]; omega
            have hm1 : (o.length : Int) - 1 = (m : Int) := by omega
            have hm2 : m < o.length := by omega
            clear hm ho0
            by_cases hd : d.toNat = 32
            · replace hsn := Lib.hid (hsn.out.trans (hsk hd))
              have b4 : ((d.toNat : Int) == 32) = true := by rw [hd]; rfl
              clear hlo hup h32 hlow hlo32 hx hsk hou hd
              replace hn1 := Lib.hid hn1
              go_wp2_with fail
              exact ⟨⟨k + 1, by omega, by go_num, by rw [hsn.out]; exact p1, p2, p3⟩, by simp [intOf] <;> omega⟩
            · replace hsn := Lib.hid (hsn.out.trans (hou hd))
              have b4 : ((d.toNat : Int) == 32) = false := by rw [beq_eq_false_iff_ne]; omega
              clear hlo hup h32 hlow hlo32 hsk hou hd
              replace hx := Lib.hid hx
              replace hn1 := Lib.hid hn1
              go_wp2_with ((with_reducible show wpList _ _ _ (⟨some 44, _, _, _, _, _⟩ :: _) _ _); refine wp_app1 tyB p1 hx.out hn1.out rfl (.tmp 41) (.tmp 43) rfl rfl rfl ?_; intro v2 w2 k1 k2 k3)
              exact ⟨⟨k + 1, by omega, by go_num, by rw [hsn.out]; exact k1, k3.fresh p2 p3.size, ext_app0 p3 p2 k2⟩, by simp [intOf] <;> omega⟩
        · have b3 : ((c.toNat : Int) == 32) = false := by rw [beq_eq_false_iff_ne]; omega
          replace hsn := Lib.hid (hsn.out.trans (fstep_out (by rw [hlo]; exact h32)))
          clear hlo hup h32
          replace hx := Lib.hid hx
          replace hn1 := Lib.hid hn1
          obtain ⟨A, cc, rfl⟩ := p1.shape
          cases q
          · clear b2
            go_wp2_with ((with_reducible show wpList _ _ _ (⟨some 44, _, _, _, _, _⟩ :: _) _ _); refine wp_app1 tyB p1 hx.out hn1.out rfl (.tmp 41) (.tmp 43) rfl rfl rfl ?_; intro v2 w2 k1 k2 k3)
            exact ⟨⟨k + 1, by omega, by go_num, by rw [hsn.out]; exact k1, k3.fresh p2 p3.size, ext_app0 p3 p2 k2⟩, by simp [intOf] <;> omega⟩
          · replace b2 := b2 rfl
            go_wp2_with ((with_reducible show wpList _ _ _ (⟨some 44, _, _, _, _, _⟩ :: _) _ _); refine wp_app1 tyB p1 hx.out hn1.out rfl (.tmp 41) (.tmp 43) rfl rfl rfl ?_; intro v2 w2 k1 k2 k3)
            exact ⟨⟨k + 1, by omega, by go_num, by rw [hsn.out]; exact k1, k3.fresh p2 p3.size, ext_app0 p3 p2 k2⟩, by simp [intOf] <;> omega⟩
    · rw [List.take_of_length_le (by omega)] at p1
      have hol := ffold_len s []
      simp only [List.length_nil, Nat.zero_add] at hol
      have hbl : decide ((k : Int) < (s.length : Int)) = false := dfalse (by omega)
      have hres : foldB s = fcut (s.foldl fstep []) := rfl
      generalize s.foldl fstep [] = o at *
      replace hres := Lib.hid hres
      by_cases ho0 : o.length = 0
      · obtain rfl : o = [] := List.eq_nil_of_length_eq_zero ho0
        obtain ⟨A, cc, rfl⟩ := p1.shape
        simp only [List.map_nil, List.length_nil] at p1
        have hcv := run_conv (P := Try.prog) (l := []) Try.underlying71 Try.underlying5 Try.underlying9 p1.sl
        go_wp2_with fail
        go_ret
        exact ⟨by rw [hres.out]; rfl, p3⟩
      · obtain ⟨m, hm⟩ : ∃ m, o.length = m + 1 := ⟨o.length - 1, by omega⟩
        rcases p1.form with ⟨rfl, ho⟩ | ⟨g, cap, rfl, q1, q2, q3⟩
        · simp only [List.map_eq_nil_iff] at ho; subst ho; simp at hm
        have hcell := p1.cellAt (j := m) (by simp; omega)
        rw [List.length_map] at q1
        simp only [List.getElem_map] at hcell
        have hcy := fcut_yes hm
        have hcn := fcut_no hm
        generalize o[m] = d at *
        have bl : decide ((0 : Int) < (o.length : Int)) = true := dtrue (by omega)
        have hm1 : (o.length : Int) - 1 = (m : Int) := by omega
        have hm2 : m < o.length := by omega
        clear hm ho0
        simp only [List.length_map] at p1 p2
        by_cases hd : d.toNat = 32
        · have b4 : ((d.toNat : Int) == 32) = true := by rw [hd]; rfl
          have hpb := Own.begin p1 (m := m) (by simp; omega)
          rw [← List.map_take] at hpb
          have hcv := run_conv (P := Try.prog) Try.underlying71 Try.underlying5 Try.underlying9 hpb.sl
          rw [hcy hd] at hres
          clear hcy hcn hd p1 hpb
          go_wp2_with fail
          go_ret
          exact ⟨by rw [hres.out]; rfl, p3⟩
        · have b4 : ((d.toNat : Int) == 32) = false := by rw [beq_eq_false_iff_ne]; omega
          have hcv := run_conv (P := Try.prog) Try.underlying71 Try.underlying5 Try.underlying9 p1.sl
          rw [hcn hd] at hres
          clear hcy hcn hd p1
          go_wp2_with fail
          go_ret
          exact ⟨by rw [hres.out]; rfl, p3⟩

set_option maxHeartbeats 4000000 in
theorem rfold_any {w : World} (s : List UInt8) (hl : s.length ≤ 140737488351232) :
    Calls Try.prog 30 #[sv s] w fun e w' => e = .returned (sv (foldB s)) ∧ Ext w w' := by
  have hsz := sv_size s
  go_enter Try.func30, Try.ntmps30
  go_wp2_with fail
  go_loopw [3, 4] (fun v i wr => ∃ k : Nat, k ≤ s.length ∧ i = .int .i64 k ∧ Own wr 5 v (((s.take k).foldl fstep []).map bv) ∧ Fresh w.heap.size v ∧ Ext w wr) (fun _ i _ => s.length - (intOf i).toNat)
  case atStart => exact ⟨0, Nat.zero_le _, rfl, by simpa using Own.nil _ _, fresh_nil _ _ _, Mod.refl _ _⟩
  case round =>
    obtain ⟨k, hk, rfl, p1, p2, p3⟩ := hrel
    by_cases hlt : k < s.length
    · have hbl : decide ((k : Int) < (s.length : Int)) = true := dtrue (by omega)
      have hol := ffold_len (s.take k) []
      have hsn := fold_snoc s hlt
      obtain ⟨c, hck⟩ : ∃ c, c = s[k] := ⟨_, rfl⟩
      have hg : ∀ h', (⟨s.toArray⟩ : ByteArray)[k]'h' = c := fun h' => (sv_get s k hlt h').trans hck.symm
      rw [← hck] at hsn
      clear hck
      simp only [List.length_nil, List.length_take] at hol
      generalize (s.take k).foldl fstep [] = o at *
      replace hsn := Lib.hid hsn
      have hn1 : o.length + 1 ≤ 140737488355328 := by omega
      have hc8 := c.toNat_lt
      by_cases hup : 65 ≤ c.toNat ∧ c.toNat ≤ 90
      · have hlo := low_up hup
        have b1 : (65 : Int) ≤ (c.toNat : Int) := by omega
        have b2 : (c.toNat : Int) ≤ 90 := by omega
        have b3 : ((c.toNat : Int) + 32 == 32) = false := by rw [beq_eq_false_iff_ne]; omega
        have hx : (c.toNat : Int) + 32 = ((low c).toNat : Int) := by omega
        replace hsn := Lib.hid (hsn.out.trans (fstep_out (by omega)))
        clear hlo hup
        replace hx := Lib.hid hx
        replace hn1 := Lib.hid hn1
        obtain ⟨A, cc, rfl⟩ := p1.shape
        go_wp2_with ((with_reducible show wpList _ _ _ (⟨some 42, _, _, _, _, _⟩ :: _) _ _); refine wp_app1 tyB p1 hx.out hn1.out rfl (.tmp 39) (.tmp 41) rfl rfl rfl ?_; intro v2 w2 k1 k2 k3)
        exact ⟨⟨k + 1, by omega, by go_num, by rw [hsn.out]; exact k1, k3.fresh p2 p3.size, ext_app0 p3 p2 k2⟩, by simp [intOf] <;> omega⟩
      · have hlo := low_no hup
        have hb12 : ∃ q : Bool, decide ((65 : Int) ≤ (c.toNat : Int)) = q ∧ (q = true → decide ((c.toNat : Int) ≤ 90) = false) := ⟨_, rfl, fun h => dfalse (by have := of_decide_eq_true h; omega)⟩
        obtain ⟨q, b1, b2⟩ := hb12
        have hx : (c.toNat : Int) = ((low c).toNat : Int) := by rw [hlo]
        by_cases h32 : c.toNat = 32
        · obtain rfl : q = false := by rw [← b1]; exact dfalse (by omega)
          have b3 : ((c.toNat : Int) == 32) = true := by rw [h32]; rfl
          have hlow : low c = 32 := by rw [hlo]; exact UInt8.toNat_inj.1 h32
          have hlo32 : (low c).toNat = 32 := by rw [hlow]; rfl
          clear b2
          by_cases ho0 : o.length = 0
          · obtain rfl : o = [] := List.eq_nil_of_length_eq_zero ho0
            replace hsn := Lib.hid (hsn.out.trans (fstep_skip0 hlow))
            clear hlo hup h32 hlow hlo32 hx
            replace hn1 := Lib.hid hn1
            obtain ⟨A, cc, rfl⟩ := p1.shape
            go_wp2_with fail
            exact ⟨⟨k + 1, by omega, by go_num, by rw [hsn.out]; exact p1, p2, p3⟩, by simp [intOf] <;> omega⟩
          · obtain ⟨m, hm⟩ : ∃ m, o.length = m + 1 := ⟨o.length - 1, by omega⟩
            rcases p1.form with ⟨rfl, ho⟩ | ⟨g, cap, rfl, q1, q2, q3⟩
            · simp only [List.map_eq_nil_iff] at ho; subst ho; simp at hm
            have hcell := p1.cellAt (j := m) (by simp; omega)
            rw [List.length_map] at q1
            simp only [List.getElem_map] at hcell
            have hsk := fstep_skip (b := c) hm hlow
            have hou := fstep_out2 (b := c) hm
            generalize o[m] = d at *
            have bl : ((o.length : Int) == 0) = false := by rw [beq_eq_false_iff_ne]; omega
            have hm1 : (o.length : Int) - 1 = (m : Int) := by omega
            have hm2 : m < o.length := by omega
            clear hm ho0
            by_cases hd : d.toNat = 32
            · replace hsn := Lib.hid (hsn.out.trans (hsk hd))
              have b4 : ((d.toNat : Int) == 32) = true := by rw [hd]; rfl
              clear hlo hup h32 hlow hlo32 hx hsk hou hd
              replace hn1 := Lib.hid hn1
              go_wp2_with fail
              exact ⟨⟨k + 1, by omega, by go_num, by rw [hsn.out]; exact p1, p2, p3⟩, by simp [intOf] <;> omega⟩
            · replace hsn := Lib.hid (hsn.out.trans (hou hd))
              have b4 : ((d.toNat : Int) == 32) = false := by rw [beq_eq_false_iff_ne]; omega
              clear hlo hup h32 hlow hlo32 hsk hou hd
              replace hx := Lib.hid hx
              replace hn1 := Lib.hid hn1
              go_wp2_with ((with_reducible show wpList _ _ _ (⟨some 42, _, _, _, _, _⟩ :: _) _ _); refine wp_app1 tyB p1 hx.out hn1.out rfl (.tmp 39) (.tmp 41) rfl rfl rfl ?_; intro v2 w2 k1 k2 k3)
              exact ⟨⟨k + 1, by omega, by go_num, by rw [hsn.out]; exact k1, k3.fresh p2 p3.size, ext_app0 p3 p2 k2⟩, by simp [intOf] <;> omega⟩
        · have b3 : ((c.toNat : Int) == 32) = false := by rw [beq_eq_false_iff_ne]; omega
          replace hsn := Lib.hid (hsn.out.trans (fstep_out (by rw [hlo]; exact h32)))
          clear hlo hup h32
          replace hx := Lib.hid hx
          replace hn1 := Lib.hid hn1
          obtain ⟨A, cc, rfl⟩ := p1.shape
          cases q
          · clear b2
            go_wp2_with ((with_reducible show wpList _ _ _ (⟨some 42, _, _, _, _, _⟩ :: _) _ _); refine wp_app1 tyB p1 hx.out hn1.out rfl (.tmp 39) (.tmp 41) rfl rfl rfl ?_; intro v2 w2 k1 k2 k3)
            exact ⟨⟨k + 1, by omega, by go_num, by rw [hsn.out]; exact k1, k3.fresh p2 p3.size, ext_app0 p3 p2 k2⟩, by simp [intOf] <;> omega⟩
          · replace b2 := b2 rfl
            go_wp2_with ((with_reducible show wpList _ _ _ (⟨some 42, _, _, _, _, _⟩ :: _) _ _); refine wp_app1 tyB p1 hx.out hn1.out rfl (.tmp 39) (.tmp 41) rfl rfl rfl ?_; intro v2 w2 k1 k2 k3)
            exact ⟨⟨k + 1, by omega, by go_num, by rw [hsn.out]; exact k1, k3.fresh p2 p3.size, ext_app0 p3 p2 k2⟩, by simp [intOf] <;> omega⟩
    · rw [List.take_of_length_le (by omega)] at p1
      have hol := ffold_len s []
      simp only [List.length_nil, Nat.zero_add] at hol
      have hbl : decide ((k : Int) < (s.length : Int)) = false := dfalse (by omega)
      have hres : foldB s = fcut (s.foldl fstep []) := rfl
      generalize s.foldl fstep [] = o at *
      replace hres := Lib.hid hres
      by_cases ho0 : o.length = 0
      · obtain rfl : o = [] := List.eq_nil_of_length_eq_zero ho0
        obtain ⟨A, cc, rfl⟩ := p1.shape
        simp only [List.map_nil, List.length_nil] at p1
        have hcv := run_conv (P := Try.prog) (l := []) Try.underlying71 Try.underlying5 Try.underlying9 p1.sl
        go_wp2_with fail
        go_ret
        exact ⟨by rw [hres.out]; rfl, p3⟩
      · obtain ⟨m, hm⟩ : ∃ m, o.length = m + 1 := ⟨o.length - 1, by omega⟩
        rcases p1.form with ⟨rfl, ho⟩ | ⟨g, cap, rfl, q1, q2, q3⟩
        · simp only [List.map_eq_nil_iff] at ho; subst ho; simp at hm
        have hcell := p1.cellAt (j := m) (by simp; omega)
        rw [List.length_map] at q1
        simp only [List.getElem_map] at hcell
        have hcy := fcut_yes hm
        have hcn := fcut_no hm
        generalize o[m] = d at *
        have bl : decide ((0 : Int) < (o.length : Int)) = true := dtrue (by omega)
        have hm1 : (o.length : Int) - 1 = (m : Int) := by omega
        have hm2 : m < o.length := by omega
        clear hm ho0
        simp only [List.length_map] at p1 p2
        by_cases hd : d.toNat = 32
        · have b4 : ((d.toNat : Int) == 32) = true := by rw [hd]; rfl
          have hpb := Own.begin p1 (m := m) (by simp; omega)
          rw [← List.map_take] at hpb
          have hcv := run_conv (P := Try.prog) Try.underlying71 Try.underlying5 Try.underlying9 hpb.sl
          rw [hcy hd] at hres
          clear hcy hcn hd p1 hpb
          go_wp2_with fail
          go_ret
          exact ⟨by rw [hres.out]; rfl, p3⟩
        · have b4 : ((d.toNat : Int) == 32) = false := by rw [beq_eq_false_iff_ne]; omega
          have hcv := run_conv (P := Try.prog) Try.underlying71 Try.underlying5 Try.underlying9 p1.sl
          rw [hcn hd] at hres
          clear hcy hcn hd p1
          go_wp2_with fail
          go_ret
          exact ⟨by rw [hres.out]; rfl, p3⟩
end Go.Proofs.Ytdfjldlfimbimaa
