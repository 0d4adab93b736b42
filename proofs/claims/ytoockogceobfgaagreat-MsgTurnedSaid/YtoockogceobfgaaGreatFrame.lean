/- The frame of a row whose statement is a law: what came in opened to words, what stays shut again; over any program. -/
import Derived.ProofKit
import Derived.OpenShut
import Derived.ChangeSame
import Derived.Deep.Slices
import Derived.Test.YtoockogceobfgaaGreatWords
namespace Go.Proofs.YtoockogceobfgaaGreat
open Go.RowKit Go.WideShapes Go.ChangeShapes Go.Deep
set_option maxRecDepth 100000

section
variable {H : Type} {enc : TypeId × Value → H} {P : Program}

theorem trodAll_stays (hl : laidOutB P = true) {W W' : World} {sp : Nat → Bool} : ∀ {ts : List TypeId} {vs : List Value} {ds : List (DataW H)} {ps : List MemPlace}, (∀ t ∈ ts, P.readableRec t = true ∧ t < P.types.size) →
    DataW.TrodAll enc P W 0 (fun _ => true) true ts vs ds ps → (∀ p ∈ ps, W.sameAt W' p) → (∀ p ∈ ps, sp p.block = true) → DataW.TrodAll enc P W' 0 sp true ts vs ds ps
  | [], vs, ds, ps, _, h, _, _ => by
    obtain ⟨rfl, rfl, rfl⟩ := trodAll_nil h
    exact trodAll_mk0
  | t :: ts, vs, ds, ps, ht, h, hs, hsp => by
    obtain ⟨v, vs', d, ds', p, q, rfl, rfl, rfl, h1, h2⟩ := trodAll_cons h
    have ht0 := ht t (by simp)
    exact trodAll_cons_mk (WideElems.Trod_stays hl ht0.1 ht0.2 h1 (fun p hp => hs p (by simp [hp])) (fun p hp => hsp p (by simp [hp])))
      (trodAll_stays hl (fun t h => ht t (by simp [h])) h2 (fun p hp => hs p (by simp [hp])) (fun p hp => hsp p (by simp [hp])))

/-- The end of a law: true came back, nothing that was there has turned. -/
theorem law_post {f : Func} {s : ChangeSpec} {W W' : World} {args : Array Value} {ds gs : List (DataW H)} {before : List MemPlace} {tb : TypeId}
    (hW : DataW.Whole enc P f.params.toList s.vars false W args.toList ds gs before) (hl : laidOutB P = true) (ht : ∀ t ∈ f.params.toList, P.readableRec t = true ∧ t < P.types.size) (hvars : s.vars = [])
    (hfn : s.fn H (ds ++ gs) = { results := [.lit (.bool true)], args := ds }) (hres : f.resultTypes = #[tb]) (hb : P.underlying tb = some .bool) (hbel : Ext W W') :
    s.post enc P f false true false false W args (.bool true) W' := by
  have hW0 := hW
  obtain ⟨p, q, hA, hV, rfl, hfz, hnd⟩ := hW
  rw [hvars] at hV
  obtain ⟨rfl, rfl⟩ := trodVars_none hV
  have hlt : ∀ x ∈ p ++ [], x.block < W.heap.size := fun x hx => hW0.lt x hx
  have hbw := Mod.toBelow hbel
  have hold : ∀ x ∈ p ++ [], (fun b => decide (b < W.heap.size)) x.block = true := fun x hx => by simpa using hlt x hx
  refine ⟨ds, [], p ++ [], [], p, [], hW0, ?_, ?_, ?_, World.keptBut_mono (fun x hx => ⟨hx, .inr (by simpa using hx)⟩) (hbw.frame (· ∈ p ++ [])), fun h => by cases h⟩
  · rw [hfn, hres]
    exact trodAll_cons_mk (shut_bool hb _) trodAll_mk0
  · rw [hfn]
    exact trodAll_stays hl ht hA (fun x hx => hbw.same (hlt x (by simp [hx]))) (fun x hx => by simpa using hlt x (by simp [hx]))
  · rw [hfn, hvars]
    exact rfl

variable {W : World} {base : Nat} {spare : Nat → Bool} {held : Bool} {t e : TypeId} {v : Value} {d : DataW H} {p : List MemPlace}

theorem u8_ofNat' (n : Nat) (h : n < 256) : ((UInt8.ofNat n).toNat : Int) = n := by rw [UInt8.toNat_ofNat_of_lt' h]
/-- Bytes that came in. -/
theorem bs_in (ht : P.underlying t = some (.slice e)) (he : P.underlying e = some (.int .u8)) (hc : P.cellsOf e = 1) (hv : ∃ a len cap, v = .slice a len cap) (h : DataW.Trod enc P W base spare held t v d p) :
    ∃ l, Bs W (fun _ => True) v l := by
  obtain ⟨a0, len0, cap0, rfl⟩ := hv
  obtain ⟨fuel, hf⟩ := h
  rcases open_ints ht he hc hf with ⟨hcs, _⟩ | ⟨x, l, c, zs, hcs, _, hl, hm, hz, _, hcell, hwz⟩
  · simp [Value.cells] at hcs
    obtain ⟨rfl, rfl, rfl⟩ := hcs
    exact ⟨[], Sl.nil _ _⟩
  · simp [Value.cells] at hcs
    obtain ⟨rfl, rfl, rfl⟩ := hcs
    have hzl : len0 ≤ zs.length := by split at hz <;> omega
    refine ⟨(zs.take len0).map fun n => UInt8.ofNat n.toNat, x |> some, cap0, by simp; omega, by simp; omega, hm, by simp, fun k u hu => ⟨x, rfl, trivial, ?_⟩⟩
    rw [List.getElem?_map, List.getElem?_map, List.getElem?_take] at hu
    split at hu
    · rename_i hk
      have hk2 : k < zs.length := by omega
      rw [List.getElem?_eq_getElem hk2] at hu
      simp only [Option.map_some, Option.some.injEq] at hu
      have hw := hwz zs[k] (List.getElem_mem hk2)
      have hb : 0 ≤ zs[k] ∧ zs[k] ≤ 255 := by simpa [Lit.wf, IntKind.bits, IntKind.signed, IntKind.min, IntKind.max] using hw
      have h2 := hcell k hk2
      rw [List.getD_eq_getElem?_getD, List.getElem?_eq_getElem hk2, Option.getD_some] at h2
      rw [h2, ← hu]
      have : ((UInt8.ofNat zs[k].toNat).toNat : Int) = zs[k] := by
        rw [u8_ofNat' _ (by omega)]; omega
      show some (Value.int .u8 zs[k]) = some (Value.int .u8 ((UInt8.ofNat zs[k].toNat).toNat : Int))
      rw [this]
    · simp at hu

/-- Ints that came in. -/
theorem is_in (ht : P.underlying t = some (.slice e)) (he : P.underlying e = some (.int .i64)) (hc : P.cellsOf e = 1) (hv : ∃ a len cap, v = .slice a len cap) (h : DataW.Trod enc P W base spare held t v d p) :
    ∃ l, Is W (fun _ => True) v l := by
  obtain ⟨a0, len0, cap0, rfl⟩ := hv
  obtain ⟨fuel, hf⟩ := h
  rcases open_ints ht he hc hf with ⟨hcs, _⟩ | ⟨x, l, c, zs, hcs, _, hl, hm, hz, _, hcell, hwz⟩
  · simp [Value.cells] at hcs
    obtain ⟨rfl, rfl, rfl⟩ := hcs
    exact ⟨[], Sl.nil _ _⟩
  · simp [Value.cells] at hcs
    obtain ⟨rfl, rfl, rfl⟩ := hcs
    have hzl : len0 ≤ zs.length := by split at hz <;> omega
    refine ⟨zs.take len0, x |> some, cap0, by simp; omega, by simp; omega, hm, by simp, fun k u hu => ⟨x, rfl, trivial, ?_⟩⟩
    rw [List.getElem?_map, List.getElem?_take] at hu
    split at hu
    · have hk2 : k < zs.length := by omega
      rw [List.getElem?_eq_getElem hk2] at hu
      simp only [Option.map_some, Option.some.injEq] at hu
      have h2 := hcell k hk2
      rw [List.getD_eq_getElem?_getD, List.getElem?_eq_getElem hk2, Option.getD_some] at h2
      rw [h2, ← hu]
    · simp at hu

theorem int_in {r : Reach} {b0 : Nat} (ht : P.underlying t = some (.int .i64)) (hv : Value.okWide P W r b0 t v) (h : DataW.Trod enc P W base spare held t v d p) :
    ∃ n, v = .int .i64 n ∧ (-9223372036854775808 ≤ n ∧ n ≤ 9223372036854775807) := by
  obtain ⟨n, rfl, _, _, hw⟩ := open_int ht hv h
  exact ⟨n, rfl, by simpa [Lit.wf, IntKind.bits, IntKind.signed, IntKind.min, IntKind.max] using hw⟩
theorem byte_in {r : Reach} {b0 : Nat} (ht : P.underlying t = some (.int .u8)) (hv : Value.okWide P W r b0 t v) (h : DataW.Trod enc P W base spare held t v d p) :
    ∃ c : UInt8, v = .int .u8 (c.toNat : Int) := by
  obtain ⟨n, rfl, _, _, hw⟩ := open_int ht hv h
  have hb : 0 ≤ n ∧ n ≤ 255 := by simpa [Lit.wf, IntKind.bits, IntKind.signed, IntKind.min, IntKind.max] using hw
  exact ⟨UInt8.ofNat n.toNat, by rw [u8_ofNat' _ (by omega)]; congr 1; omega⟩

theorem slice_val {sp : Nat → Bool} {hd : Bool} {fuel : Nat} {x : Value} {z : DataW H × List MemPlace} (ht : P.underlying t = some (.slice e)) (h : DataW.trod enc P W base sp hd fuel t [x] = some z) : ∃ a len cap, x = .slice a len cap := by
  rcases open_slice ht h with ⟨hcs, _⟩ | ⟨a, len, cap, m, n, D, Pl, hcs, _⟩
  · injection hcs with h1; exact ⟨_, _, _, h1⟩
  · injection hcs with h1; exact ⟨_, _, _, h1⟩

/-- Rows of bytes that came in. -/
theorem rw_in {u : TypeId} (ht : P.underlying t = some (.slice u)) (hu : P.underlying u = some (.slice e)) (he : P.underlying e = some (.int .u8)) (hcu : P.cellsOf u = 1) (hc : P.cellsOf e = 1) (hv : ∃ a len cap, v = .slice a len cap) (h : DataW.Trod enc P W base spare held t v d p) :
    ∃ L, Rw W (fun _ => True) v L := by
  obtain ⟨a0, len0, cap0, rfl⟩ := hv
  obtain ⟨fuel, hf⟩ := h
  rcases open_slice1 ht hcu hf with ⟨hcs, _⟩ | ⟨x, len, cap, m, n, V, D, Pl, hcs, _, hl, hm, hmm, _, hel⟩
  · simp [Value.cells] at hcs
    obtain ⟨rfl, rfl, rfl⟩ := hcs
    exact ⟨[], [], rfl, Sl.nil _ _, fun k x l hx => by simp at hx⟩
  · simp [Value.cells] at hcs
    obtain ⟨rfl, rfl, rfl⟩ := hcs
    have hzl : len0 ≤ m := by rw [hmm]; split <;> omega
    have hrow : ∀ i, ∃ l, i < len0 → Bs W (fun _ => True) (V i) l := fun i => by
      by_cases hi : i < len0
      · obtain ⟨_, h2⟩ := hel i (by omega)
        obtain ⟨l, hb⟩ := bs_in (d := (D i)) (p := Pl i) hu he hc (slice_val hu h2) ⟨n, by rw [show (V i).cells.toList = [V i] by obtain ⟨a, b, c, e⟩ := slice_val hu h2; rw [e]; rfl]; exact h2⟩
        exact ⟨l, fun _ => hb⟩
      · exact ⟨[], fun h => absurd h hi⟩
    refine ⟨(List.range len0).map fun i => Classical.choose (hrow i), (List.range len0).map V, by simp, ⟨x |> some, cap0, by simp, by simp; omega, hm, by simp, fun k u hu => ⟨x, rfl, trivial, ?_⟩⟩, fun k y l hy hl => ?_⟩
    · by_cases hk : k < len0
      · rw [List.getElem?_map, List.getElem?_range hk] at hu
        simp only [Option.map_some, Option.some.injEq] at hu
        rw [← hu]
        exact (hel k (by omega)).1
      · rw [List.getElem?_eq_none (by simp; omega)] at hu
        cases hu
    · by_cases hk : k < len0
      · rw [List.getElem?_map, List.getElem?_range hk] at hy hl
        simp only [Option.map_some, Option.some.injEq] at hy hl
        rw [← hy, ← hl]
        exact Classical.choose_spec (hrow k) hk
      · rw [List.getElem?_eq_none (by simp; omega)] at hy
        cases hy
end
end Go.Proofs.YtoockogceobfgaaGreat
