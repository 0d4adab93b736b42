/- Strings: bytes as a text, over any program. -/
import Derived.Test.YtblfhonfjljndaaDoorSized
import Derived.Laws.BytesArg
import Derived.ChangeMaps5
import Derived.SliceStrings
import Derived.SizedLaws
namespace Go.Proofs.YtblfhonfjljndaaDoor
open Go.RowKit

/-- A text as a value. -/
abbrev sv (l : List UInt8) : Value := .string ⟨l.toArray⟩

/-- string(b). -/
theorem run_conv {P : Program} {w : World} {S : Nat → Prop} {v : Value} {l : List UInt8} {src dst e : TypeId} (hs : P.underlying src = some (.slice e)) (he : P.underlying e = some (.int .u8)) (hd : P.underlying dst = some .string) (h : Bs w S v l) :
    (convert src dst v).run P w = .ok (sv l) w := by
  obtain ⟨A, c, rfl, h2, h3, h4, h5⟩ := h.open_
  rcases A with _ | ad
  · have : l = [] := List.eq_nil_of_length_eq_zero (by have := h4 rfl; omega)
    subst this
    exact run_convert_bytes_nil w src e hs he _ _ dst hd
  · have hl : (loadCells ad l.length).run P w = .ok ((l.map fun c => (c.toNat : Int)).map (Value.int .u8)).toArray w := by
      have := run_loadCells_list (P := P) w ad (l.map bv) (fun j v hj => by
        obtain ⟨ad', h1, _, h6⟩ := h5 j v hj
        injection h1 with h1
        subst h1
        exact h6)
      rw [List.length_map] at this
      rw [this, List.map_map]
      rfl
    rw [run_convert_bytes_string w src dst e _ _ c hs he hd, run_bytesToString w _ _ c _ hl, foldl_push_bytes]
    have h9 : (l.map fun c => (c.toNat : Int)).map (fun n => UInt8.ofNat n.toNat) = l := by
      rw [List.map_map]
      conv => rhs; rw [← List.map_id l]
      apply List.map_congr_left
      intro c _
      apply UInt8.toNat_inj.1
      show (UInt8.ofNat ((c.toNat : Int).toNat)).toNat = c.toNat
      rw [Int.toNat_natCast, UInt8.toNat_ofNat_of_lt' c.toNat_lt]
    rw [h9, show ByteArray.empty.data = #[] from rfl, Array.empty_append]
theorem run_convs {P : Program} {w : World} {S : Nat → Prop} {v : Value} {l : List UInt8} {src dst e : TypeId} (hs : P.underlying src = some (.slice e)) (he : P.underlying e = some (.int .u8)) (hd : P.underlying dst = some .string) (h : Bs w S v l) (n : Nat) :
    (convert src dst v).run P (w.drewN n) = .ok (sv l) (w.drewN n) := run_conv hs he hd (h.drewN n)
end Go.Proofs.YtblfhonfjljndaaDoor
namespace Go.Proofs.YtblfhonfjljndaaDoor
open Go.RowKit Go.WideShapes Go.ChangeShapes Go.Deep
set_option maxRecDepth 100000

/-- Rows of texts. -/
abbrev Ss (w : World) (S : Nat → Prop) (v : Value) (L : List (List UInt8)) : Prop := Sl w S v (L.map sv)

section
variable {H : Type} {enc : TypeId × Value → H} {P : Program} {W : World} {base : Nat} {spare : Nat → Bool} {held : Bool} {t e : TypeId} {v : Value} {d : DataW H} {p : List MemPlace}
theorem sv_of (s : ByteArray) : Value.string s = sv s.data.toList := by
  show Value.string s = .string ⟨s.data.toList.toArray⟩
  cases s
  simp
theorem str_in {r : Reach} {b0 : Nat} (ht : P.underlying t = some .string) (hv : Value.okWide P W r b0 t v) (h : DataW.Trod enc P W base spare held t v d p) :
    ∃ l : List UInt8, v = sv l ∧ l.length ≤ 9223372036854775807 := by
  obtain ⟨s, rfl, _, _, hs⟩ := Go.ChangeMaps.open_string ht hv h
  exact ⟨s.data.toList, sv_of s, by rw [Array.length_toList]; simpa [maxLen] using hs⟩
theorem strs_in (ht : P.underlying t = some (.slice e)) (he : P.underlying e = some .string) (hc : P.cellsOf e = 1) (hv : ∃ a len cap, v = .slice a len cap) (h : DataW.Trod enc P W base spare held t v d p) :
    ∃ L : List (List UInt8), Ss W (fun _ => True) v L ∧ ∀ l ∈ L, l.length ≤ 9223372036854775807 := by
  obtain ⟨a0, len0, cap0, rfl⟩ := hv
  obtain ⟨fuel, hf⟩ := h
  rcases Go.ChangeShapes.open_strings ht he hc hf with ⟨hcs, _⟩ | ⟨x, l, c, ss, hcs, _, hl, hm, hz, _, hcell, hwz⟩
  · simp [Value.cells] at hcs
    obtain ⟨rfl, rfl, rfl⟩ := hcs
    exact ⟨[], Sl.nil _ _, fun l hl => by cases hl⟩
  · simp [Value.cells] at hcs
    obtain ⟨rfl, rfl, rfl⟩ := hcs
    have hzl : len0 ≤ ss.length := by split at hz <;> omega
    refine ⟨(ss.take len0).map fun s => s.data.toList, ⟨x |> some, cap0, by simp; omega, by simp; omega, hm, by simp, fun k u hu => ⟨x, rfl, trivial, ?_⟩⟩, fun l hl => ?_⟩
    · rw [List.getElem?_map, List.getElem?_map, List.getElem?_take] at hu
      split at hu
      · rename_i hk
        have hk2 : k < ss.length := by omega
        rw [List.getElem?_eq_getElem hk2] at hu
        simp only [Option.map_some, Option.some.injEq] at hu
        have h2 := hcell k hk2
        rw [List.getD_eq_getElem?_getD, List.getElem?_eq_getElem hk2, Option.getD_some] at h2
        rw [h2, ← hu, sv_of]
      · simp at hu
    · obtain ⟨s, hs, rfl⟩ := List.mem_map.1 hl
      rw [Array.length_toList]
      simpa [maxLen] using hwz s (List.mem_of_mem_take hs)

theorem mem_weightsAll {e : TypeId} {n : Nat} {d : DataW H} : ∀ {ds : List (DataW H)}, d ∈ ds → n ∈ d.weights P e → n ∈ DataW.weightsAll P e ds
  | d0 :: ds, hd, hn => by
    simp only [DataW.weightsAll, List.mem_append]
    rcases List.mem_cons.1 hd with rfl | hd
    · exact .inl hn
    · exact .inr (mem_weightsAll hd hn)
theorem str_in_sized {ts : List TypeId} {ds : List (DataW H)} {j : Nat} {r : Reach} {b0 : Nat} (ht : P.underlying t = some .string) (hv : Value.okWide P W r b0 t v) (h : DataW.Trod enc P W base spare held t v d p)
    (hsz : (DataW.weightsEach P ts ds).all (· ≤ reachBytes) = true) (htj : ts[j]? = some t) (hj : ds[j]? = some d) :
    ∃ l : List UInt8, v = sv l ∧ l.length ≤ 140737488351232 := by
  obtain ⟨s, rfl, rfl, _, hs⟩ := Go.ChangeMaps.open_string ht hv h
  exact ⟨s.data.toList, sv_of s, sized_string hsz htj hj⟩
theorem strs_in_sized {ts : List TypeId} {ds : List (DataW H)} {j : Nat} (ht : P.underlying t = some (.slice e)) (he : P.underlying e = some .string) (hc : P.cellsOf e = 1) (hby : P.bytesOf e = 16) (hv : ∃ a len cap, v = .slice a len cap) (h : DataW.Trod enc P W base spare held t v d p)
    (hsz : (DataW.weightsEach P ts ds).all (· ≤ reachBytes) = true) (htj : ts[j]? = some t) (hj : ds[j]? = some d) :
    ∃ L : List (List UInt8), Ss W (fun _ => True) v L ∧ (∀ l ∈ L, l.length ≤ 140737488351232) ∧ L.length * 16 ≤ 140737488351232 := by
  obtain ⟨a0, len0, cap0, rfl⟩ := hv
  obtain ⟨fuel, hf⟩ := h
  rcases Go.ChangeShapes.open_strings ht he hc hf with ⟨hcs, _⟩ | ⟨x, l, c, ss, hcs, _, hl, hm, hz, hx, hcell, hwz⟩
  · simp [Value.cells] at hcs
    obtain ⟨rfl, rfl, rfl⟩ := hcs
    exact ⟨[], Sl.nil _ _, (fun l hl => by cases hl), by simp⟩
  · simp [Value.cells] at hcs
    obtain ⟨rfl, rfl, rfl⟩ := hcs
    have hzl : len0 ≤ ss.length := by split at hz <;> omega
    injection hx with hd _
    subst hd
    have hs1 := sized_slice hsz htj hj ht
    rw [hby] at hs1
    simp only [Go.ChangeShapes.strs, List.length_map, List.length_take, List.length_drop, reachBytes] at hs1
    refine ⟨(ss.take len0).map fun s => s.data.toList, ⟨x |> some, cap0, by simp; omega, by simp; omega, hm, by simp, fun k u hu => ⟨x, rfl, trivial, ?_⟩⟩, fun l hl => ?_, by rw [List.length_map, List.length_take]; omega⟩
    · rw [List.getElem?_map, List.getElem?_map, List.getElem?_take] at hu
      split at hu
      · rename_i hk
        have hk2 : k < ss.length := by omega
        rw [List.getElem?_eq_getElem hk2] at hu
        simp only [Option.map_some, Option.some.injEq] at hu
        have h2 := hcell k hk2
        rw [List.getD_eq_getElem?_getD, List.getElem?_eq_getElem hk2, Option.getD_some] at h2
        rw [h2, ← hu, sv_of]
      · simp at hu
    · obtain ⟨s, hs, rfl⟩ := List.mem_map.1 hl
      have hmem : (DataW.lit (.string s.data.toList) : DataW H) ∈ (Go.ChangeShapes.strs (ss.take len0) : List (DataW H)) := List.mem_map.2 ⟨s, hs, rfl⟩
      have hw : s.data.toList.length ∈ DataW.weightsAll P e (Go.ChangeShapes.strs (ss.take len0) : List (DataW H)) := mem_weightsAll hmem (by simp [DataW.weights])
      have := List.all_eq_true.1 hsz _ (DataW.weights_mem_each htj hj s.data.toList.length (by simp only [DataW.weights, ht]; exact List.mem_cons_of_mem _ (List.mem_append_left _ hw)))
      exact of_decide_eq_true this
end
end Go.Proofs.YtblfhonfjljndaaDoor
