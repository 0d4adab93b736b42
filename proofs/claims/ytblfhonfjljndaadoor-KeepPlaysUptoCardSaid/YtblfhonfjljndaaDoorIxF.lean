/- index: rows gathered out of two sets. -/
import Derived.Test.YtblfhonfjljndaaDoorIxC
namespace Go.Proofs.YtblfhonfjljndaaDoor
open Go.RowKit Go.Maps
set_option maxRecDepth 100000

/-- The rows of what has come so far. -/
def Gat (mk : List UInt8 → Ro) (a b : Tx) (left : Lit → Bool) (os : List Ro) : Prop := os.Nodup ∧ ∀ r, r ∈ os ↔ ∃ k, k ∈ a ∧ left (.string k) = false ∧ k ∉ b ∧ r = mk k
section
variable {mk : List UInt8 → Ro} {a b : Tx} {left : Lit → Bool} {os : List Ro}
theorem Gat.start {D : DataW Unit} (h : IsSet D a) : Gat mk a b (has D) [] := ⟨List.nodup_nil, fun r => ⟨(fun h => by cases h), (fun ⟨k, h1, h2, _⟩ => by rw [h.2] at h2; simp [h1] at h2)⟩⟩
theorem strike_iff (left : Lit → Bool) (x k : List UInt8) : ((left (.string k) && !(Lit.string k).sameKey (.string x)) = false) ↔ left (.string k) = false ∨ k = x := by
  by_cases h : k = x
  · subst h; simp [Lit.sameKey]
  · simp [Lit.sameKey, h]
theorem Gat.more (hmk : ∀ x y, mk x = mk y → x = y) (h : Gat mk a b left os) {x : List UInt8} (hx : x ∈ a) (hl : left (.string x) = true) (hb : x ∉ b) : Gat mk a b (fun z => left z && !z.sameKey (.string x)) (os ++ [mk x]) := by
  obtain ⟨h1, h2⟩ := h
  refine ⟨List.nodup_append.2 ⟨h1, by simp, fun r hr s hs => ?_⟩, fun r => ?_⟩
  · simp at hs
    subst hs
    rintro rfl
    obtain ⟨k, _, hk, _, e⟩ := (h2 _).1 hr
    rw [← hmk _ _ e, hl] at hk
    cases hk
  · rw [List.mem_append, h2, List.mem_singleton]
    constructor
    · rintro (⟨k, k1, k2, k3, rfl⟩ | rfl)
      · exact ⟨k, k1, (strike_iff left x k).2 (.inl k2), k3, rfl⟩
      · exact ⟨x, hx, (strike_iff left x x).2 (.inr rfl), hb, rfl⟩
    · rintro ⟨k, k1, k2, k3, rfl⟩
      rcases (strike_iff left x k).1 k2 with h | rfl
      · exact .inl ⟨k, k1, h, k3, rfl⟩
      · exact .inr rfl
theorem Gat.stay (h : Gat mk a b left os) {x : List UInt8} (hb : x ∈ b) : Gat mk a b (fun z => left z && !z.sameKey (.string x)) os := by
  obtain ⟨h1, h2⟩ := h
  refine ⟨h1, fun r => ?_⟩
  rw [h2]
  constructor
  · rintro ⟨k, k1, k2, k3, rfl⟩
    exact ⟨k, k1, (strike_iff left x k).2 (.inl k2), k3, rfl⟩
  · rintro ⟨k, k1, k2, k3, rfl⟩
    rcases (strike_iff left x k).1 k2 with h | rfl
    · exact ⟨k, k1, h, k3, rfl⟩
    · exact absurd hb k3
/-- All has come. -/
def All (mk : List UInt8 → Ro) (a b : Tx) (os : List Ro) : Prop := os.Nodup ∧ ∀ r, r ∈ os ↔ ∃ k, k ∈ a ∧ k ∉ b ∧ r = mk k
theorem Gat.all (h : Gat mk a b left os) (hl : ∀ kl, left kl = false) : All mk a b os := ⟨h.1, fun r => by
  rw [h.2]
  exact ⟨fun ⟨k, k1, _, k3, e⟩ => ⟨k, k1, k3, e⟩, fun ⟨k, k1, k3, e⟩ => ⟨k, k1, hl _, k3, e⟩⟩⟩
end
theorem gone_inj (x y : List UInt8) (h : goneR x = goneR y) : x = y := congrArg Ro.key h
theorem new_inj (x y : List UInt8) (h : newR x = newR y) : x = y := congrArg Ro.key h
theorem dif_of {a b : Tx} {os os2 D : List Ro} (h1 : All goneR a b os) (h2 : All newR b a os2) (hp : D.Perm (os ++ os2)) (hs : D.Pairwise fun x y => Op.bytesLess y.key x.key = false) : IsDif a b D := by
  have hm : ∀ r, r ∈ D ↔ (∃ k, k ∈ a ∧ k ∉ b ∧ r = goneR k) ∨ ∃ k, k ∈ b ∧ k ∉ a ∧ r = newR k := fun r => by rw [hp.mem_iff, List.mem_append, h1.2, h2.2]
  have hn : D.Nodup := hp.nodup_iff.2 (List.nodup_append.2 ⟨h1.1, h2.1, fun r hr s hs => by
    rintro rfl
    obtain ⟨k, _, _, e⟩ := (h1.2 _).1 hr
    obtain ⟨k2, _, _, e2⟩ := (h2.2 _).1 hs
    rw [e] at e2
    cases e2⟩)
  refine ⟨(hs.and hn).imp_of_mem fun {x y} hx hy h => ?_, hm⟩
  refine less_tot h.1 fun e => h.2 ?_
  rcases (hm x).1 hx with ⟨k, k1, k2, rfl⟩ | ⟨k, k1, k2, rfl⟩ <;> rcases (hm y).1 hy with ⟨j, j1, j2, rfl⟩ | ⟨j, j1, j2, rfl⟩
  · rw [show j = k from e]
  · obtain rfl : j = k := e
    exact absurd j1 k2
  · obtain rfl : j = k := e
    exact absurd k1 j2
  · rw [show j = k from e]
section
variable {H : Type} {P : Program} {k : TypeId} {R : Value → Option (DataW H × List MemPlace)} {w w' : World} {b r n : Nat} {D : DataW H} {left : Lit → Bool} {cnt : Nat}
theorem ranges_mod {F : Nat → Prop} (h : w.ranges P k R b r n D left cnt) (hm : Mod F w w') (h1 : ¬ F b) (h2 : ¬ F r) : w'.ranges P k R b r n D left cnt := by
  have l1 := h.owns.lt
  have l2 := h.lt
  obtain ⟨es, clock, since, seen, c0, hb, F', hs, hD, hr, rest⟩ := h
  exact ⟨es, clock, since, seen, c0, (hm.block b l1 h1).trans hb, F', hs, hD, (hm.block r l2 h2).trans hr, rest⟩
theorem map_ne_iter {k2 : TypeId} {R2 : Value → Option (DataW H × List MemPlace)} {b2 n2 : Nat} {D2 : DataW H} (h : w.ownsMap P k2 R2 b2 n2 D2) (hm : w.ranges P k R b r n D left cnt) : b2 ≠ r := by
  rintro rfl
  obtain ⟨es, clock, hb, _⟩ := h
  obtain ⟨_, _, since, seen, c0, _, _, _, _, hr, _⟩ := hm
  rw [hb] at hr
  cases hr
end
theorem invS (key : Value) (kl : Lit) (h : keyOf Tryd.prog 9 key = some kl) : ∃ x : List UInt8, key = sv x := by
  obtain ⟨x, hx, _⟩ := Maps.keyOf_str Tryd.underlying9 h
  exact ⟨x, hx⟩
theorem invU (v : Value) (y : DataW Unit × List MemPlace) (h : unitElem v = some y) : ∃ _ : Unit, v = .agg #[] := ⟨(), (unitElem_inv h).1⟩
theorem keyIs {x : List UInt8} {kl : Lit} (h : keyOf Tryd.prog 9 (sv x) = some kl) : kl = .string x ∧ x.length ≤ maxLen := by
  obtain ⟨y, hx, hk, hl⟩ := Maps.keyOf_str Tryd.underlying9 h
  obtain rfl : x = y := encStr_inj hx
  exact ⟨hk, hl⟩
/-- What a set has yet to give is in it. -/
theorem left_in {D : DataW Unit} {L : Tx} (hs : IsSet D L) {x : List UInt8} {y : DataW Unit} (hat : ∀ zd, D.atKey (.string x) zd = y) : x ∈ L := by
  have := has_true_of_atKey hat
  rw [hs.2] at this
  simpa using this
end Go.Proofs.YtblfhonfjljndaaDoor
