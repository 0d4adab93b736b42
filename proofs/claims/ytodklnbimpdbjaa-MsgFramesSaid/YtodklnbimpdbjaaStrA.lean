/- Strings: bytes as a text, over any program. -/
import Derived.Test.YtodklnbimpdbjaaSized
import Derived.Laws.BytesArg
namespace Go.Proofs.Ytodklnbimpdbjaa
open Go.RowKit

/-- A text as a value. -/
abbrev sv (l : List UInt8) : Value := .string ⟨l.toArray⟩

/-- string(b). -/
theorem run_conv {P : Program} {w : World} {S : Nat → Prop} {v : Value} {l : List UInt8} {src dst e : TypeId} (hs : P.underlying src = some (.slice e)) (he : P.underlying e = some (.int .u8)) (hd : P.underlying dst = some .string) (h : Bs w S v l) :
    (convert src dst v).run P w = .ok (sv l) w := by
  obtain ⟨A, c, rfl, h2, h3, h4, h5⟩ := h.open_
  rcases A with _ | ad
  · have : l = [] := List.eq_nil_of_length_eq_zero (by have := h4 rfl; omega)
    subst this
    exact run_convert_bytes_nil w src e hs he _ _ dst hd
  · have hl : (loadCells ad l.length).run P w = .ok ((l.map fun c => (c.toNat : Int)).map (Value.int .u8)).toArray w := by
      have := run_loadCells_list (P := P) w ad (l.map bv) (fun j v hj => by
        obtain ⟨ad', h1, _, h6⟩ := h5 j v hj
        injection h1 with h1
        subst h1
        exact h6)
      rw [List.length_map] at this
      rw [this, List.map_map]
      rfl
    rw [run_convert_bytes_string w src dst e _ _ c hs he hd, run_bytesToString w _ _ c _ hl, foldl_push_bytes]
    have h9 : (l.map fun c => (c.toNat : Int)).map (fun n => UInt8.ofNat n.toNat) = l := by
      rw [List.map_map]
      conv => rhs; rw [← List.map_id l]
      apply List.map_congr_left
      intro c _
      apply UInt8.toNat_inj.1
      show (UInt8.ofNat ((c.toNat : Int).toNat)).toNat = c.toNat
      rw [Int.toNat_natCast, UInt8.toNat_ofNat_of_lt' c.toNat_lt]
    rw [h9, show ByteArray.empty.data = #[] from rfl, Array.empty_append]
theorem run_convs {P : Program} {w : World} {S : Nat → Prop} {v : Value} {l : List UInt8} {src dst e : TypeId} (hs : P.underlying src = some (.slice e)) (he : P.underlying e = some (.int .u8)) (hd : P.underlying dst = some .string) (h : Bs w S v l) (n : Nat) :
    (convert src dst v).run P (w.drewN n) = .ok (sv l) (w.drewN n) := run_conv hs he hd (h.drewN n)
end Go.Proofs.Ytodklnbimpdbjaa
