/- match: what the law looks at, what it knows; the laws Once, Whole. -/
import Derived.Test.YtgghjkefbfbopaaDoorMtF
import Derived.Shelf.Vars
namespace Go.Proofs.YtgghjkefbfbopaaDoor
open Go.RowKit
set_option maxRecDepth 100000

theorem mxl_of {W : World} (h : W.ShapedOpen Tryd.prog) : Mxl W := Go.Proofs.cell_of_shapedOpen_int (zero := #[.int .i64 0]) (t := 3) h (of_decide_eq_true (by kernel_rfl)) (by kernel_rfl) rfl (by kernel_rfl) (by kernel_rfl) Tryd.underlying3
def hvy (n : Nat) (L : List (List UInt8)) : Prop := ∀ x ∈ L, x.length ≤ n
def Hv15 (L : List (List UInt8)) (w : World) (e : Ending) (w' : World) : Prop := ∃ q : Bool, e = .returned (.bool q) ∧ (q = false → hvy 1500 L) ∧ w' = w
section
variable {w : World} {S : Nat → Prop} {v : Value}
set_option maxHeartbeats 4000000 in
theorem heavy15_any {L : List (List UInt8)} (hv : Ss w S v L) (hL : ∀ x ∈ L, x.length ≤ 140737488351232) :
    Calls Tryd.prog 7 #[v] w (Hv15 L w) := by
  obtain ⟨A, c, rfl, q1, q2, q3, q4⟩ := hv.open_
  clear hv
  go_enter Tryd.func7, Tryd.ntmps7
  go_wp2_with fail
  go_loop [3, 4] (fun n i => ∃ (k m : Nat), k ≤ L.length ∧ i = .int .i64 k ∧ n = .int .i64 m ∧ m ≤ 1500 ∧ Hid (hvy 1500 (L.take k))) (fun _ i => L.length - (intOf i).toNat)
  case atStart => exact ⟨0, 0, Nat.zero_le _, rfl, rfl, by omega, Lib.hid (fun x hx => by simp at hx)⟩
  case round =>
    obtain ⟨k, m, hk, rfl, rfl, hm, hh⟩ := hrel
    by_cases hlt : k < L.length
    · have hbl : decide ((k : Int) < (L.length : Int)) = true := dtrue (by omega)
      obtain ⟨ad, hA, hS, c0⟩ := q4.at_ hlt
      subst hA
      have hi0 : (0 : Int) ≤ (k : Int) := by omega
      have hi1 : (k : Int) < (L.length : Int) := by omega
      have hxl := hL _ (List.getElem_mem hlt)
      have hsn : ∀ h : L[k].length ≤ 1500, hvy 1500 (L.take (k + 1)) := fun h x hx => by
        rw [List.take_succ_eq_append_getElem hlt] at hx
        rcases List.mem_append.1 hx with hx | hx
        · exact hh.out x hx
        · rw [List.mem_singleton.1 hx]; exact h
      generalize L[k] = x at *
      have hz := sv_size x
      by_cases hgt : 1500 < m + 1 + x.length
      · have hb : decide ((1500 : Int) < (m : Int) + 1 + (x.length : Int)) = true := dtrue (by omega)
        clear hsn
        go_wp2_with fail
        go_ret
        exact ⟨true, rfl, by simp, rfl⟩
      · have hb : decide ((1500 : Int) < (m : Int) + 1 + (x.length : Int)) = false := dfalse (by omega)
        have hx := Lib.hid (hsn (by omega))
        clear hsn
        go_wp2_with fail
        go_round
        case rel => exact ⟨k + 1, m + 1 + x.length, by omega, by go_num, by go_num, by omega, hx⟩
        case measure => simp [intOf]; omega
    · have hbl : decide ((k : Int) < (L.length : Int)) = false := dfalse (by omega)
      have hx : Hid (hvy 1500 L) := Lib.hid (by have := hh.out; rwa [List.take_of_length_le (by omega)] at this)
      go_wp2_with fail
      go_ret
      exact ⟨false, rfl, fun _ => hx.out, rfl⟩
abbrev kJohn : List UInt8 := [74, 111, 104, 110, 32, 83, 109, 105, 116, 104]
abbrev kSubs : List (List UInt8) := [[106, 111], [110, 32, 115], [116, 104]]
theorem sub_john : subM 1 kJohn kSubs = (true, true) := by decide +kernel
theorem equal_ab : equalM 1 [32, 65, 32, 32, 98] [97, 32, 66] = true := by decide +kernel
set_option maxHeartbeats 4000000 in
theorem known15_any (hm : Mxl w) : Calls Tryd.prog 9 #[] w fun e w' => e = .returned (.bool true) ∧ Ext w w' := by
  have hx : Ext w (w.alloc (.cells #[.string ⟨#[106, 111]⟩, .string ⟨#[110, 32, 115]⟩, .string ⟨#[116, 104]⟩] 9)) := (Mod.refl _ w).alloc _
  have hr : Ss (w.alloc (.cells #[.string ⟨#[106, 111]⟩, .string ⟨#[110, 32, 115]⟩, .string ⟨#[116, 104]⟩] 9)) (fun k => k = w.heap.size) (.slice (some ⟨w.heap.size, 0, none⟩) 3 3) kSubs := Sl.lit w 9 (kSubs.map sv) (by simp [maxLen])
  have hc := msub_any 1 kJohn hr (by simp) (by simp) (hm.ext hx)
  rw [sub_john] at hc
  have hc2 := fun wx : World => mequal_any (w := wx) 1 [32, 65, 32, 32, 98] [97, 32, 66] (by simp) (by simp)
  rw [equal_ab] at hc2
  clear hr
  go_enter Tryd.func9, Tryd.ntmps9
  go_wp2_with fail
  refine hc.mono ?_
  rintro e w1 ⟨rfl, x1⟩
  clear hc
  go_wp2_with fail
  refine (hc2 w1).mono ?_
  rintro e w2 ⟨rfl, x2⟩
  clear hc2
  go_wp2_with fail
  go_ret
  exact ⟨rfl, ext_trans hx (ext_trans x1 x2)⟩
theorem ss_one (w : World) (s : List UInt8) : Ss (w.alloc (.cells #[sv s] 9)) (fun k => k = w.heap.size) (.slice (some ⟨w.heap.size, 0, none⟩) 1 1) [s] := Sl.one w 9 (sv s)
theorem sub_bytes {s : List UInt8} {L : List (List UInt8)} (hs : s.length ≤ 256) (h1 : 2 ≤ L.length) (h2 : L.length ≤ 16) : subM 4 s L = (hasP s (L.getD 0 []) ((L.drop 1).take (L.length - 2)) (L.getD (L.length - 1) []), true) := by
  have hn : normM 4 s = (s, true) := by rw [normM_short hs]; rfl
  have hp : pieceM 4 = id := rfl
  unfold subM hasM
  rw [hn, if_neg (by rintro (h | h | h | h) <;> first | cases h; done | omega), hp, List.map_id]
  rfl
theorem whole1 (s : List UInt8) (hs : s.length ≤ 256) : subM 4 s [s, []] = (true, true) := by
  rw [sub_bytes hs (by simp) (by simp)]
  simp [hasP, midsF]
theorem whole2 (s : List UInt8) (hs : s.length ≤ 256) : subM 4 s [[], s] = (true, true) := by
  rw [sub_bytes hs (by simp) (by simp)]
  simp [hasP, midsF]
theorem whole3 (s : List UInt8) (hs : s.length ≤ 256) (f t : Nat) (hf : f < t) (ht : t ≤ s.length) : subM 4 s [[], (s.drop f).take (t - f), []] = (true, true) := by
  rw [sub_bytes hs (by simp) (by simp)]
  obtain ⟨r, h1, _⟩ := mids_has (s := s) (p := (s.drop f).take (t - f)) (y := s.take f) (z := s.drop t) (ps := []) (r0 := s.drop t) (by
    rw [List.append_assoc]
    have h2 : (s.drop f).take (t - f) ++ s.drop t = s.drop f := by
      have h3 : s.drop t = (s.drop f).drop (t - f) := by rw [List.drop_drop, show f + (t - f) = t by omega]
      rw [h3, List.take_append_drop]
    rw [h2, List.take_append_drop]) rfl
  have e : hasP s [] [(s.drop f).take (t - f)] [] = true := by
    unfold hasP
    simp only [List.length_nil, List.drop_zero, h1]
    simp
  exact congrArg (fun b => (b, true)) e
theorem whole4 (s : List UInt8) (hs : s.length ≤ 256) : subM 4 s [s, [120]] = (false, true) := by
  rw [sub_bytes hs (by simp) (by simp)]
  simp [hasP, midsF]
end
end Go.Proofs.YtgghjkefbfbopaaDoor
