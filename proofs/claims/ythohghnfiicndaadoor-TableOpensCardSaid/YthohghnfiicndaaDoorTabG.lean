/- table: a Table in memory. -/
import Derived.Test.YthohghnfiicndaaDoorTabB
import Derived.DeepKeys4
import Derived.Maps.OwnSet
import Derived.Maps.OwnOps
namespace Go.Proofs.YthohghnfiicndaaDoor
open Go.RowKit Go.Maps Go.WideMaps
set_option maxRecDepth 100000

theorem laid_ : laidOutB Tryd.prog = true := by kernel_rfl
theorem cellsE : Tryd.prog.cellsOf 85 = 2 := by kernel_rfl
theorem cellsS : Tryd.prog.cellsOf 9 = 1 := by kernel_rfl
theorem cellsI : Tryd.prog.cellsOf 3 = 1 := by kernel_rfl
theorem wideE : (match Tryd.prog.underlying 85 with | some (.array _ _) | some (.struct _) => true | _ => false) = true := by rw [Tryd.underlying85]
theorem keyEK : Keyed Tryd.prog 85 := Keyed.of_law (deep_law_laid laid_ (m := 2) (by omega) (of_decide_eq_true (by kernel_rfl)) (by kernel_rfl) wideE)
theorem ktE : Tryd.prog.keyType 85 = true := by kernel_rfl
def kE (e : En) : Lit := .string (keyBytes [.string e.key, .int .i64 e.seq])
def EFit (e : En) : Prop := e.key.length ≤ 1000000 ∧ 0 ≤ e.seq ∧ e.seq ≤ 4611686018427387904
theorem wfI {n : Int} (h0 : 0 ≤ n) (h1 : n ≤ 4611686018427387904) : (Lit.int .i64 n).wf = true := by
  show (decide (-9223372036854775808 ≤ n) && decide (n ≤ 9223372036854775807)) = true
  rw [decide_eq_true (by omega), decide_eq_true (by omega)]
  rfl
theorem key_en {e : En} (h : EFit e) : keyOf Tryd.prog 85 (.agg (ear e)) = some (kE e) := by
  obtain ⟨n, hn⟩ : ∃ n, Tryd.prog.types.size + 1 = n + 2 := ⟨Tryd.prog.types.size - 1, by
    have : 1 ≤ Tryd.prog.types.size := of_decide_eq_true (by kernel_rfl)
    omega⟩
  have hs : (⟨e.key.toArray⟩ : ByteArray).size ≤ maxLen := by rw [sv_size]; have := h.1; unfold maxLen; omega
  have hw := wfI h.2.1 h.2.2
  unfold keyOf
  rw [Tryd.underlying85]
  simp only [hn]
  simp [Value.formed, Tryd.underlying85, Tryd.underlying9, Tryd.underlying3, cellsE, cellsS, cellsI, Program.keyLits, Value.cells, kE, ktE, hs, hw]
theorem kE_inj {a b : En} (ha : EFit a) (hb : EFit b) (h : kE a = kE b) : a = b := by
  have h3 := keyEK.inj (key_en ha) (by rw [key_en hb, h])
  obtain ⟨k, s⟩ := a
  obtain ⟨k', s'⟩ := b
  simp only [ear, Value.agg.injEq, Array.mk.injEq, List.cons.injEq, Value.int.injEq, true_and, and_true, sv, Value.string.injEq, ByteArray.mk.injEq] at h3
  obtain ⟨e1, e2⟩ := h3
  rw [e1, e2]

/-- How a slice that a call owns reads as a map's element. -/
def slE : Value → Option (DataW Unit × List MemPlace)
  | .slice none 0 0 => some (.nil, [])
  | .slice (some ⟨g, 0, none⟩) n c => some (.agg [.lit (.int .i64 g), .lit (.int .i64 n), .lit (.int .i64 c)], [])
  | _ => none
theorem slE_nil : slE (.slice none 0 0) = some (.nil, []) := rfl
theorem slE_mk (g n c : Nat) : slE (.slice (some ⟨g, 0, none⟩) n c) = some (.agg [.lit (.int .i64 g), .lit (.int .i64 n), .lit (.int .i64 c)], []) := rfl
theorem slE_cases {v : Value} {y : DataW Unit × List MemPlace} (h : slE v = some y) : (v = .slice none 0 0 ∧ y = (.nil, [])) ∨ ∃ g n c : Nat, v = .slice (some ⟨g, 0, none⟩) n c ∧ y = (.agg [.lit (.int .i64 g), .lit (.int .i64 n), .lit (.int .i64 c)], []) := by
  unfold slE at h
  split at h
  · injection h with h; exact .inl ⟨rfl, h.symm⟩
  · injection h with h; exact .inr ⟨_, _, _, rfl, h.symm⟩
  · cases h
theorem slE_inj {u v : Value} {d : DataW Unit} {ps qs : List MemPlace} (hu : slE u = some (d, ps)) (hv : slE v = some (d, qs)) : u = v := by
  rcases slE_cases hu with ⟨rfl, e1⟩ | ⟨g, n, c, rfl, e1⟩ <;> rcases slE_cases hv with ⟨rfl, e2⟩ | ⟨g', n', c', rfl, e2⟩
  · rfl
  · injection e1 with e1; injection e2 with e2; rw [e1] at e2; cases e2
  · injection e1 with e1; injection e2 with e2; rw [e1] at e2; cases e2
  · injection e1 with e1
    injection e2 with e2
    rw [e1] at e2
    simp only [DataW.agg.injEq, List.cons.injEq, DataW.lit.injEq, Lit.int.injEq, true_and, and_true] at e2
    obtain ⟨a1, a2, a3⟩ := e2
    rw [Int.ofNat.inj a1, Int.ofNat.inj a2, Int.ofNat.inj a3]
theorem slE_own {w : World} {v : Value} {L : List Ce} (h : OwnC w v L) : ∃ d, slE v = some (d, []) := by
  rcases OwnK.form h with ⟨rfl, _⟩ | ⟨g, cp, rfl, _⟩
  · exact ⟨_, rfl⟩
  · exact ⟨_, rfl⟩
theorem zeroC (w : World) : (zeroValue 22).run Tryd.prog w = .ok (.slice none 0 0) w := by kernel_rfl
theorem ownsMap_mod {H : Type} {P : Program} {k : TypeId} {R : Value → Option (DataW H × List MemPlace)} {w w' : World} {b n : Nat} {D : DataW H} {F : Nat → Prop} (h : w.ownsMap P k R b n D) (hm : Mod F w w') (hn : ¬ F b) : w'.ownsMap P k R b n D := by
  have hlt := h.lt
  obtain ⟨es, clock, hb, F, hs, hD⟩ := h
  exact ⟨es, clock, (hm.block b hlt hn).trans hb, F, hs, hD⟩
/-- It is the set of some texts. -/
theorem Own.ty {w : World} {e : TypeId} {v : Value} {xs : List Value} (h : Own w e v xs) {k : Nat} (hk : own v k) : ∃ cur, Blk w k e cur := by
  rcases h.2 with ⟨rfl, _⟩ | ⟨g, cap, cur, rfl, _, hh, _⟩
  · cases hk
  · cases hk; exact ⟨cur, hh⟩
theorem OwnR.ty {α : Type} {f : α → List Value} {n : Nat} {w : World} {e : TypeId} {v : Value} {L : List α} (h : OwnR f n w e v L) {k : Nat} (hk : own v k) : ∃ cur, Blk w k e cur := by
  rcases h.2 with ⟨rfl, _⟩ | ⟨g, cap, cur, rfl, _, hh, _⟩
  · cases hk
  · cases hk; exact ⟨cur, hh⟩
theorem Blk.ne_map {H : Type} {P : Program} {k : TypeId} {R : Value → Option (DataW H × List MemPlace)} {w : World} {b n g : Nat} {D : DataW H} {t : TypeId} {cs : Array Value} (h : Blk w g t cs) (hm : w.ownsMap P k R b n D) : g ≠ b := by
  rintro rfl
  obtain ⟨es, clock, hb, _⟩ := hm
  unfold Blk at h
  rw [h] at hb
  cases hb
theorem Blk.ty_eq {w : World} {g : Nat} {t t' : TypeId} {cs cs' : Array Value} (h : Blk w g t cs) (h' : Blk w g t' cs') : t = t' := by
  unfold Blk at h h'
  rw [h] at h'
  injection h' with h'
  injection h'

/-- A block, its end, the slice that holds its cells. -/
abbrev Bv := Bl × Value
def hasV (acc : List Bv) (e : En) : Bool := hasE (acc.map Prod.fst) e
/-- The map reads as these blocks' slices. -/
structure MapOf (D : DataW Unit) (acc : List Bv) : Prop where
  isMap : IsMap D
  has : ∀ e, EFit e → has D (kE e) = hasV acc e
  at_ : ∀ x ∈ acc, ∃ d, slE x.2 = some (d, []) ∧ D.atKey (kE x.1.1) .nil = d
theorem MapOf.begin : MapOf (.map []) [] := ⟨isMap_empty, fun e _ => by simp [has_eq, hasV, hasE], fun x hx => by cases hx⟩
theorem MapOf.put {D : DataW Unit} {acc : List Bv} (h : MapOf D acc) (hf : ∀ x ∈ acc, EFit x.1.1) {x : Bv} (hx : EFit x.1.1) (hn : hasV acc x.1.1 = false) {d : DataW Unit} (hd : slE x.2 = some (d, [])) : MapOf (D.put (kE x.1.1) d) (acc ++ [x]) := by
  have hv : ∀ e, hasV (acc ++ [x]) e = (hasV acc e || decide (x.1.1 = e)) := fun e => by
    unfold hasV
    rw [List.map_append, List.map_singleton, hasE_snoc]
  refine ⟨h.isMap.put _ _, fun e he => ?_, fun y hy => ?_⟩
  · rw [hv]
    by_cases e1 : x.1.1 = e
    · subst e1
      rw [has_put_same h.isMap (k := kE x.1.1) (keyEK.key (key_en hx)), decide_eq_true rfl, Bool.or_true]
    · rw [has_put_other (fun e2 => e1 (kE_inj he hx e2).symm), h.has e he, decide_eq_false e1, Bool.or_false]
  · rcases List.mem_append.1 hy with hy | hy
    · obtain ⟨dy, h1, h2⟩ := h.at_ y hy
      refine ⟨dy, h1, ?_⟩
      rw [atKey_put_other, h2]
      intro e2
      have e3 := kE_inj (hf y hy) hx e2
      have : hasV acc x.1.1 = true := (hasE_iff _ _).2 ⟨y.1, List.mem_map.2 ⟨y, hy, rfl⟩, e3⟩
      rw [hn] at this
      cases this
    · rw [List.mem_singleton.1 hy]
      exact ⟨d, hd, atKey_put_same h.isMap (k := kE x.1.1) (keyEK.key (key_en hx)) _ _⟩

abbrev tcells (ve : Value) (bm : Nat) (vf : Value) (cnt : Int) : Array Value := #[ve, .map (some bm), vf, .int .i64 cnt]
/-- A Table at block g: its blocks' ends, its blocks, its filter, its count; all of it in blocks of S. -/
structure TbAt (S : Nat → Prop) (w : World) (g bm : Nat) (ve vf : Value) (D : DataW Unit) (acc : List Bv) (cnt : Int) (fil : List UInt8) : Prop where
  blk : Blk w g 72 (tcells ve bm vf cnt)
  ends : OwnR enl 2 w 85 ve (acc.map fun x => x.1.1)
  map : w.ownsMap Tryd.prog 85 slE bm acc.length D
  of : MapOf D acc
  cells : ∀ x ∈ acc, OwnC w x.2 x.1.2
  fil : Own w 5 vf (fil.map bv)
  sg : S g
  sm : S bm
  se : ∀ k, own ve k → S k
  sf : ∀ k, own vf k → S k
  sc : ∀ x ∈ acc, ∀ k, own x.2 k → S k
  fit : ∀ x ∈ acc, EFit x.1.1
section
variable {S T F : Nat → Prop} {w w' : World} {g bm : Nat} {ve vf : Value} {D : DataW Unit} {acc : List Bv} {cnt : Int} {fil : List UInt8}
theorem TbAt.mod (h : TbAt S w g bm ve vf D acc cnt fil) (hm : Mod F w w') (hn : ∀ k, k < w.heap.size → S k → ¬ F k) : TbAt S w' g bm ve vf D acc cnt fil where
  blk := h.blk.mod hm (hn _ h.blk.lt h.sg)
  ends := h.ends.mod hm fun k hk => hn k (OwnR.lt h.ends hk) (h.se k hk)
  map := ownsMap_mod h.map hm (hn _ h.map.lt h.sm)
  of := h.of
  cells := fun x hx => (h.cells x hx).mod hm fun k hk => hn k (OwnR.lt (h.cells x hx) hk) (h.sc x hx k hk)
  fil := h.fil.mod hm fun k hk => hn k (h.fil.lt hk) (h.sf k hk)
  sg := h.sg
  sm := h.sm
  se := h.se
  sf := h.sf
  sc := h.sc
  fit := h.fit
theorem TbAt.ext (h : TbAt S w g bm ve vf D acc cnt fil) (hm : Ext w w') : TbAt S w' g bm ve vf D acc cnt fil := h.mod hm fun _ _ _ h => h
theorem TbAt.mono (h : TbAt S w g bm ve vf D acc cnt fil) (hn : ∀ k, k < w.heap.size → S k → T k) : TbAt T w g bm ve vf D acc cnt fil :=
  { h with sg := hn _ h.blk.lt h.sg, sm := hn _ h.map.lt h.sm, se := fun k hk => hn k (OwnR.lt h.ends hk) (h.se k hk), sf := fun k hk => hn k (h.fil.lt hk) (h.sf k hk), sc := fun x hx k hk => hn k (OwnR.lt (h.cells x hx) hk) (h.sc x hx k hk) }
theorem TbAt.bg (h : TbAt S w g bm ve vf D acc cnt fil) : g ≠ bm := h.blk.ne_map h.map
theorem TbAt.off_e (h : TbAt S w g bm ve vf D acc cnt fil) {k : Nat} (hk : own ve k) : k ≠ g ∧ k ≠ bm := by
  obtain ⟨cur, hc⟩ := OwnR.ty h.ends hk
  exact ⟨by rintro rfl; exact absurd (hc.ty_eq h.blk) (by decide), hc.ne_map h.map⟩
theorem TbAt.off_f (h : TbAt S w g bm ve vf D acc cnt fil) {k : Nat} (hk : own vf k) : k ≠ g ∧ k ≠ bm := by
  obtain ⟨cur, hc⟩ := Own.ty h.fil hk
  exact ⟨by rintro rfl; exact absurd (hc.ty_eq h.blk) (by decide), hc.ne_map h.map⟩
theorem TbAt.off_c (h : TbAt S w g bm ve vf D acc cnt fil) {x : Bv} (hx : x ∈ acc) {k : Nat} (hk : own x.2 k) : k ≠ g ∧ k ≠ bm ∧ ¬ own ve k := by
  obtain ⟨cur, hc⟩ := OwnR.ty (h.cells x hx) hk
  refine ⟨by rintro rfl; exact absurd (hc.ty_eq h.blk) (by decide), hc.ne_map h.map, fun he => ?_⟩
  obtain ⟨cur', hc'⟩ := OwnR.ty h.ends he
  exact absurd (hc.ty_eq hc') (by decide)
/-- Where a block's slice lies. -/
theorem TbAt.look (h : TbAt S w g bm ve vf D acc cnt fil) {x : Bv} (hx : x ∈ acc) : (Instr.lookup 69 (.map (some bm)) (.agg (ear x.1.1)) false).run Tryd.prog w = .ok x.2 w := by
  obtain ⟨v, ps, hrun, hv⟩ := h.map.lookup keyEK Tryd.underlying69 (zeroC w) slE_nil (key_en (h.fit x hx))
  obtain ⟨d, h1, h2⟩ := h.of.at_ x hx
  rw [h2] at hv
  rw [hrun, slE_inj hv h1]
end
/-- A Table in that state, all of it in blocks of S. -/
def Tb (S : Nat → Prop) (w : World) (g : Nat) (acc : List Bv) (cnt : Int) (fil : List UInt8) : Prop := ∃ bm ve vf D, TbAt S w g bm ve vf D acc cnt fil
section
variable {S T F : Nat → Prop} {w w' : World} {g : Nat} {acc : List Bv} {cnt : Int} {fil : List UInt8}
theorem Tb.mod (h : Tb S w g acc cnt fil) (hm : Mod F w w') (hn : ∀ k, k < w.heap.size → S k → ¬ F k) : Tb S w' g acc cnt fil := by
  obtain ⟨bm, ve, vf, D, h⟩ := h
  exact ⟨bm, ve, vf, D, h.mod hm hn⟩
theorem Tb.ext (h : Tb S w g acc cnt fil) (hm : Ext w w') : Tb S w' g acc cnt fil := h.mod hm fun _ _ _ h => h
theorem Tb.mono (h : Tb S w g acc cnt fil) (hn : ∀ k, k < w.heap.size → S k → T k) : Tb T w g acc cnt fil := by
  obtain ⟨bm, ve, vf, D, h⟩ := h
  exact ⟨bm, ve, vf, D, h.mono hn⟩
end
end Go.Proofs.YthohghnfiicndaaDoor
