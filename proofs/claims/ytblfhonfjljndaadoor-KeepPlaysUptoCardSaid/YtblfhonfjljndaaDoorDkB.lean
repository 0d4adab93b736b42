/- disk: a Disk in memory. -/
import Derived.Test.YtblfhonfjljndaaDoorDkA
import Derived.Test.YtblfhonfjljndaaDoorIxC
namespace Go.Proofs.YtblfhonfjljndaaDoor
open Go.RowKit Go.Maps Go.WideMaps Go.WideShapes
set_option maxRecDepth 100000

/-- How a pointer to a file reads. -/
def ptrElem : Value → Option (DataW Unit × List MemPlace)
  | .pointer none => some (.nil, [])
  | .pointer (some ⟨g, 0, none⟩) => some (.lit (.int .i64 g), [])
  | _ => none
abbrev pv (g : Nat) : Value := .pointer (some ⟨g, 0, none⟩)
theorem ptr_mk (g : Nat) : ptrElem (pv g) = some (.lit (.int .i64 g), []) := rfl
theorem ptr_inv {v : Value} {g : Nat} {ps : List MemPlace} (h : ptrElem v = some (.lit (.int .i64 (g : Int)), ps)) : v = pv g := by
  cases v with
  | pointer a =>
    cases a with
    | none => simp [ptrElem] at h
    | some a =>
      obtain ⟨b, o, n⟩ := a
      cases n with
      | some n => simp [ptrElem] at h
      | none =>
        cases o with
        | zero =>
          simp only [ptrElem, Option.some.injEq, Prod.mk.injEq, DataW.lit.injEq, Lit.int.injEq, true_and] at h
          have : b = g := by have := h.1; omega
          rw [this]
        | succ o => simp [ptrElem] at h
  | _ => simp [ptrElem] at h
theorem ptr_nil {v : Value} {ps : List MemPlace} (h : ptrElem v = some (.nil, ps)) : v = .pointer none := by
  cases v with
  | pointer a =>
    cases a with
    | none => rfl
    | some a =>
      obtain ⟨b, o, n⟩ := a
      cases n with
      | some n => simp [ptrElem] at h
      | none =>
        cases o with
        | zero => simp [ptrElem] at h
        | succ o => simp [ptrElem] at h
  | _ => simp [ptrElem] at h
abbrev pvo : Option Nat → Value
  | none => .pointer none
  | some g => pv g
theorem ptr_some (v : Value) (y : DataW Unit × List MemPlace) (h : ptrElem v = some y) : ∃ c : Option Nat, v = pvo c := by
  cases v with
  | pointer a =>
    cases a with
    | none => exact ⟨none, rfl⟩
    | some a =>
      obtain ⟨b, o, n⟩ := a
      cases n with
      | some n => simp [ptrElem] at h
      | none =>
        cases o with
        | zero => exact ⟨some b, rfl⟩
        | succ o => simp [ptrElem] at h
  | _ => simp [ptrElem] at h
theorem zeroP (w : World) : (zeroValue 68).run Tryd.prog w = .ok (.pointer none) w := by kernel_rfl

/-- Where a file lies: its block, its bytes' slice. -/
abbrev Lay := List UInt8 → Nat × Value
def upd (G : Lay) (x : List UInt8) (p : Nat × Value) : Lay := fun y => if y = x then p else G y
theorem upd_same (G : Lay) (x : List UInt8) (p : Nat × Value) : upd G x p x = p := by simp [upd]
theorem upd_other (G : Lay) {x y : List UInt8} (p : Nat × Value) (h : y ≠ x) : upd G x p y = G y := by simp [upd, h]

/-- The map reads as these files' blocks. -/
structure FilesOf (D : DataW Unit) (L : Fis) (G : Lay) : Prop where
  tidy : Tidy D
  has : ∀ x, has D (.string x) = decide (x ∈ nms L)
  key : ∀ x, x ∈ nms L → D.atKey (.string x) .nil = .lit (.int .i64 ((G x).1 : Nat))
  size : size D = L.length
theorem FilesOf.none (G : Lay) : FilesOf (.map []) [] G := ⟨tidy_empty, fun x => by simp [has_eq, nms], (fun x h => by cases h), rfl⟩
theorem FilesOf.miss {D : DataW Unit} {L : Fis} {G : Lay} (h : FilesOf D L G) {x : List UInt8} (hx : x ∉ nms L) : D.atKey (.string x) .nil = .nil := atKey_of_not_has (by rw [h.has]; simpa using hx) _
theorem FilesOf.put {D : DataW Unit} {L : Fis} {G : Lay} (h : FilesOf D L G) (hr : Rise L) (f : Fi) (g : Nat) (v : Value) : FilesOf (D.put (.string f.name) (.lit (.int .i64 (g : Nat)))) (putF L f) (upd G f.name (g, v)) := by
  refine ⟨h.tidy.put (k := .string f.name) trivial _, fun x => ?_, fun x hx => ?_, ?_⟩
  · by_cases e : x = f.name
    · rw [e, has_put_same h.tidy.isMap (k := .string f.name) trivial]
      exact (decide_eq_true ((mem_nms_putF hr f _).2 (.inl rfl))).symm
    · rw [has_put_other (fun e2 => e (by injection e2)), h.has]
      exact decide_eq_decide.2 ⟨fun h => (mem_nms_putF hr f x).2 (.inr h), fun h => ((mem_nms_putF hr f x).1 h).resolve_left e⟩
  · by_cases e : x = f.name
    · subst e
      rw [atKey_put_same h.tidy.isMap (k := .string f.name) trivial, upd_same]
    · rw [atKey_put_other (fun e2 => e (by injection e2)), upd_other _ _ e]
      exact h.key x (((mem_nms_putF hr f x).1 hx).resolve_left e)
  · rw [size_put h.tidy, h.has, h.size]
    have := (sumB_putF (f := f) hr).2
    cases e : getF L f.name with
    | some f' =>
      rw [e] at this
      rw [if_pos (decide_eq_true (getF_iff.2 (by rw [e]; rfl)))]
      simp only [one] at this
      omega
    | none =>
      rw [e] at this
      rw [if_neg (by simpa using getF_none e)]
      simp only [one] at this
      omega
theorem FilesOf.keep {D : DataW Unit} {L : Fis} {G : Lay} (h : FilesOf D L G) (hr : Rise L) (f : Fi) (hf : f.name ∈ nms L) (v : Value) : FilesOf D (putF L f) (upd G f.name ((G f.name).1, v)) := by
  refine ⟨h.tidy, fun x => ?_, fun x hx => ?_, ?_⟩
  · rw [h.has]
    exact decide_eq_decide.2 ⟨fun h => (mem_nms_putF hr f x).2 (.inr h), fun h => ((mem_nms_putF hr f x).1 h).elim (fun e => e ▸ hf) id⟩
  · by_cases e : x = f.name
    · subst e
      rw [upd_same, h.key _ hf]
    · rw [upd_other _ _ e]
      exact h.key x (((mem_nms_putF hr f x).1 hx).resolve_left e)
  · rw [h.size]
    have := (sumB_putF (f := f) hr).2
    obtain ⟨f', e⟩ := getF_some_of hf
    rw [e] at this
    simp only [one] at this
    omega
theorem FilesOf.del {D : DataW Unit} {L : Fis} {G : Lay} (h : FilesOf D L G) (hr : Rise L) (x : List UInt8) : FilesOf (D.del (.string x)) (delF L x) G := by
  refine ⟨h.tidy.del _, fun y => ?_, fun y hy => ?_, ?_⟩
  · by_cases e : y = x
    · rw [e, has_del_same]
      exact (decide_eq_false (fun h => ((mem_nms_delF x x).1 h).2 rfl)).symm
    · rw [has_del_other (fun e2 => e (by injection e2)), h.has]
      exact decide_eq_decide.2 ⟨fun h => (mem_nms_delF x y).2 ⟨h, e⟩, fun h => ((mem_nms_delF x y).1 h).1⟩
  · have := (mem_nms_delF x y).1 hy
    rw [atKey_del_other (fun e2 => this.2 (by injection e2))]
    exact h.key y this.1
  · have h1 := size_del (k := .string x) h.tidy
    have h2 := (sumB_delF (x := x) hr).2
    rw [h.has, h.size] at h1
    cases e : getF L x with
    | some f' =>
      rw [e] at h2
      rw [if_pos (decide_eq_true (getF_iff.2 (by rw [e]; rfl)))] at h1
      simp only [one] at h2
      omega
    | none =>
      rw [e] at h2
      rw [if_neg (by simpa using getF_none e)] at h1
      simp only [one] at h2
      omega
theorem FilesOf.congr {D : DataW Unit} {L : Fis} {G G' : Lay} (h : FilesOf D L G) (he : ∀ x, x ∈ nms L → (G' x).1 = (G x).1) : FilesOf D L G' := ⟨h.tidy, h.has, fun x hx => by rw [he x hx]; exact h.key x hx, h.size⟩
theorem ownsMap_tight {H : Type} {P : Program} {k : TypeId} {R : Value → Option (DataW H × List MemPlace)} {w : World} {b n : Nat} {D : DataW H} (h : w.ownsMap P k R b n D) : w.ownsMap P k R b (size D) D := by
  obtain ⟨es, clock, hb, F, hs, rfl⟩ := h
  exact ⟨es, clock, hb, F, by simp [Maps.size, length_sorted], rfl⟩

/-- A Disk's state. -/
structure Ds where
  room : Nat
  L : Fis
  fu : Bool
  left : Nat
abbrev dcells (d : Ds) (bm : Nat) : Array Value := #[.int .i64 (d.room : Int), .int .i64 (sumB d.L : Nat), .map (some bm), .bool d.fu, .int .i64 (d.left : Int)]
abbrev fcells (v : Value) (n : Nat) : Array Value := #[v, .int .i64 (n : Int)]

structure DkAt (S : Nat → Prop) (w : World) (bd bm : Nat) (D : DataW Unit) (G : Lay) (d : Ds) : Prop where
  sd : S bd
  sm : S bm
  blk : Blk w bd 55 (dcells d bm)
  map : w.ownsMap Tryd.prog 9 ptrElem bm d.L.length D
  of : FilesOf D d.L G
  rise : Rise d.L
  fs : ∀ f ∈ d.L, S (G f.name).1 ∧ ∀ k, own (G f.name).2 k → S k
  fb : ∀ f ∈ d.L, Blk w (G f.name).1 70 (fcells (G f.name).2 f.last)
  fo : ∀ f ∈ d.L, Own w 5 (G f.name).2 (f.b.map bv)
  fl : ∀ f ∈ d.L, f.last ≤ f.b.length ∧ 1 ≤ f.name.length ∧ f.name.length ≤ 64
  apart : ∀ f ∈ d.L, ∀ f' ∈ d.L, f.name ≠ f'.name → (G f.name).1 ≠ (G f'.name).1 ∧ ∀ k, own (G f.name).2 k → ¬ own (G f'.name).2 k
  room : sumB d.L ≤ d.room
  most : d.room ≤ 1073741824
  few : d.L.length ≤ 4096
  lf : d.left ≤ 9223372036854775807
/-- v is a Disk in that state, all of it in blocks of S. -/
def Dk (S : Nat → Prop) (w : World) (v : Value) (d : Ds) : Prop := ∃ bd bm D G, v = pv bd ∧ DkAt S w bd bm D G d

theorem Own.ty {w : World} {e : TypeId} {v : Value} {xs : List Value} (h : Own w e v xs) {k : Nat} (hk : own v k) : ∃ cur, Blk w k e cur := by
  rcases h.2 with ⟨rfl, _⟩ | ⟨g, cap, cur, rfl, _, hh, _⟩
  · cases hk
  · cases hk; exact ⟨cur, hh⟩
theorem Blk.ty_eq {w : World} {g : Nat} {t t' : TypeId} {cs cs' : Array Value} (h : Blk w g t cs) (h' : Blk w g t' cs') : t = t' := by
  unfold Blk at h h'
  rw [h] at h'
  injection h' with h'
  injection h'
theorem Blk.ne_map {H : Type} {P : Program} {k : TypeId} {R : Value → Option (DataW H × List MemPlace)} {w : World} {b n g : Nat} {D : DataW H} {t : TypeId} {cs : Array Value} (h : Blk w g t cs) (hm : w.ownsMap P k R b n D) : g ≠ b := by
  rintro rfl
  obtain ⟨es, clock, hb, _⟩ := hm
  unfold Blk at h
  rw [h] at hb
  cases hb
section
variable {S T F : Nat → Prop} {w w' : World} {bd bm : Nat} {D : DataW Unit} {G : Lay} {d : Ds} {v : Value}
theorem DkAt.mod (h : DkAt S w bd bm D G d) (hm : Mod F w w') (hn : ∀ k, k < w.heap.size → S k → ¬ F k) : DkAt S w' bd bm D G d where
  sd := h.sd
  sm := h.sm
  blk := h.blk.mod hm (hn _ h.blk.lt h.sd)
  map := ownsMap_mod h.map hm (hn _ h.map.lt h.sm)
  of := h.of
  rise := h.rise
  fs := h.fs
  fb := fun f hf => (h.fb f hf).mod hm (hn _ (h.fb f hf).lt (h.fs f hf).1)
  fo := fun f hf => (h.fo f hf).mod hm fun k hk => hn k ((h.fo f hf).lt hk) ((h.fs f hf).2 k hk)
  fl := h.fl
  apart := h.apart
  room := h.room
  most := h.most
  few := h.few
  lf := h.lf
theorem DkAt.mono (h : DkAt S w bd bm D G d) (hn : ∀ k, k < w.heap.size → S k → T k) : DkAt T w bd bm D G d where
  sd := hn _ h.blk.lt h.sd
  sm := hn _ h.map.lt h.sm
  blk := h.blk
  map := h.map
  of := h.of
  rise := h.rise
  fs := fun f hf => ⟨hn _ (h.fb f hf).lt (h.fs f hf).1, fun k hk => hn k ((h.fo f hf).lt hk) ((h.fs f hf).2 k hk)⟩
  fb := h.fb
  fo := h.fo
  fl := h.fl
  apart := h.apart
  room := h.room
  most := h.most
  few := h.few
  lf := h.lf
theorem Dk.mod (h : Dk S w v d) (hm : Mod F w w') (hn : ∀ k, k < w.heap.size → S k → ¬ F k) : Dk S w' v d := by
  obtain ⟨bd, bm, D, G, rfl, h⟩ := h
  exact ⟨bd, bm, D, G, rfl, h.mod hm hn⟩
theorem Dk.ext (h : Dk S w v d) (hm : Ext w w') : Dk S w' v d := h.mod hm fun _ _ _ h => h
theorem Dk.mono (h : Dk S w v d) (hn : ∀ k, k < w.heap.size → S k → T k) : Dk T w v d := by
  obtain ⟨bd, bm, D, G, rfl, h⟩ := h
  exact ⟨bd, bm, D, G, rfl, h.mono hn⟩
theorem Dk.cut (h : Dk S w v d) : Dk (fun k => S k ∧ k < w.heap.size) w v d := h.mono fun _ h1 h2 => ⟨h2, h1⟩
theorem DkAt.bd_ne (h : DkAt S w bd bm D G d) {f : Fi} (hf : f ∈ d.L) : (G f.name).1 ≠ bd := fun e => by
  have h1 := h.fb f hf
  rw [e] at h1
  exact absurd (h1.ty_eq h.blk) (by decide)
theorem DkAt.own_ne (h : DkAt S w bd bm D G d) {f : Fi} (hf : f ∈ d.L) {k : Nat} (hk : own (G f.name).2 k) : k ≠ bd ∧ k ≠ bm ∧ ∀ f' ∈ d.L, k ≠ (G f'.name).1 := by
  obtain ⟨cur, hc⟩ := (h.fo f hf).ty hk
  refine ⟨?_, hc.ne_map h.map, fun f' hf' => ?_⟩
  · rintro rfl; exact absurd (hc.ty_eq h.blk) (by decide)
  · rintro rfl; exact absurd (hc.ty_eq (h.fb f' hf')) (by decide)
/-- A file turned: its bytes, how many of them last. -/
theorem DkAt.file (h : DkAt S w bd bm D G d) {f : Fi} (hf : f ∈ d.L) {u : Value} {b : List UInt8} {last : Nat} {fu : Bool} {left : Nat} (hm : Mod F w w') (hF : ∀ k, k < w.heap.size → F k → k = bd ∨ k = (G f.name).1 ∨ own (G f.name).2 k)
    (hx : Next w.heap.size (G f.name).2 u) (hb : Blk w' bd 55 (dcells { d with L := putF d.L ⟨f.name, b, last⟩, fu := fu, left := left } bm)) (hg : Blk w' (G f.name).1 70 (fcells u last)) (ho : Own w' 5 u (b.map bv)) (hl : last ≤ b.length)
    (hroom : sumB d.L + b.length ≤ d.room + f.b.length) (hlf : left ≤ 9223372036854775807) : DkAt (fun k => S k ∨ w.heap.size ≤ k) w' bd bm D (upd G f.name ((G f.name).1, u)) { d with L := putF d.L ⟨f.name, b, last⟩, fu := fu, left := left } := by
  have hget := getF_of_mem h.rise hf
  obtain ⟨s1, s2⟩ := sumB_putF (f := ⟨f.name, b, last⟩) h.rise
  rw [show (⟨f.name, b, last⟩ : Fi).name = f.name from rfl, hget] at s1 s2
  simp only [lenB, one] at s1 s2
  have hlen : (putF d.L ⟨f.name, b, last⟩).length = d.L.length := by omega
  have hmem : f.name ∈ nms d.L := List.mem_map.2 ⟨f, hf, rfl⟩
  have hcase : ∀ f' ∈ putF d.L ⟨f.name, b, last⟩, f' = ⟨f.name, b, last⟩ ∨ (f' ∈ d.L ∧ f'.name ≠ f.name) := fun f' hf' => (mem_putF h.rise f').1 hf'
  have hown : ∀ k, own u k → own (G f.name).2 k ∨ w.heap.size ≤ k := fun k hk => by
    rcases hx with e | e
    · left; show (G f.name).2.ownBlock = some k; rw [← e]; exact hk
    · exact .inr (e k hk)
  have hoth : ∀ f' ∈ d.L, f'.name ≠ f.name → ¬ F (G f'.name).1 ∧ ∀ k, own (G f'.name).2 k → ¬ F k := fun f' hf' hn => by
    refine ⟨fun hF' => ?_, fun k hk hF' => ?_⟩
    · rcases hF _ (h.fb f' hf').lt hF' with e | e | e
      · exact h.bd_ne hf' e
      · exact (h.apart f' hf' f hf hn).1 e
      · exact (h.own_ne hf e).2.2 f' hf' rfl
    · rcases hF _ ((h.fo f' hf').lt hk) hF' with e | e | e
      · exact (h.own_ne hf' hk).1 e
      · exact (h.own_ne hf' hk).2.2 f hf e
      · exact (h.apart f' hf' f hf hn).2 k hk e
  refine ⟨.inl h.sd, .inl h.sm, hb, ?_, ?_, rise_putF h.rise, ?_, ?_, ?_, ?_, ?_, ?_, h.most, by show (putF d.L _).length ≤ 4096; rw [hlen]; exact h.few, hlf⟩
  · show w'.ownsMap _ _ _ bm (putF d.L _).length D
    rw [hlen]
    refine ownsMap_mod h.map hm fun hF' => ?_
    rcases hF _ h.map.lt hF' with e | e | e
    · exact h.blk.ne_map h.map e.symm
    · exact (h.fb f hf).ne_map h.map e.symm
    · exact (h.own_ne hf e).2.1 rfl
  · exact h.of.keep h.rise ⟨f.name, b, last⟩ hmem u
  · intro f' hf'
    rcases hcase f' hf' with rfl | ⟨h1, h2⟩
    · rw [upd_same]
      exact ⟨.inl (h.fs f hf).1, fun k hk => (hown k hk).imp ((h.fs f hf).2 k) id⟩
    · rw [upd_other _ _ h2]
      exact ⟨.inl (h.fs f' h1).1, fun k hk => .inl ((h.fs f' h1).2 k hk)⟩
  · intro f' hf'
    rcases hcase f' hf' with rfl | ⟨h1, h2⟩
    · rw [upd_same]; exact hg
    · rw [upd_other _ _ h2]
      exact (h.fb f' h1).mod hm (hoth f' h1 h2).1
  · intro f' hf'
    rcases hcase f' hf' with rfl | ⟨h1, h2⟩
    · rw [upd_same]; exact ho
    · rw [upd_other _ _ h2]
      exact (h.fo f' h1).mod hm (hoth f' h1 h2).2
  · intro f' hf'
    rcases hcase f' hf' with rfl | ⟨h1, h2⟩
    · exact ⟨hl, (h.fl f hf).2⟩
    · exact h.fl f' h1
  · intro f1 h1 f2 h2 hn
    rcases hcase f1 h1 with rfl | ⟨a1, a2⟩ <;> rcases hcase f2 h2 with rfl | ⟨c1, c2⟩
    · exact absurd rfl hn
    · rw [upd_same, upd_other _ _ c2]
      refine ⟨(h.apart f hf f2 c1 (Ne.symm c2)).1, fun k hk hk2 => ?_⟩
      rcases hown k hk with e | e
      · exact (h.apart f hf f2 c1 (Ne.symm c2)).2 k e hk2
      · have := (h.fo f2 c1).lt hk2
        omega
    · rw [upd_same, upd_other _ _ a2]
      refine ⟨(h.apart f1 a1 f hf a2).1, fun k hk hk2 => ?_⟩
      rcases hown k hk2 with e | e
      · exact (h.apart f1 a1 f hf a2).2 k hk e
      · have := (h.fo f1 a1).lt hk
        omega
    · rw [upd_other _ _ a2, upd_other _ _ c2]
      exact h.apart f1 a1 f2 c1 hn
  · show sumB (putF d.L _) ≤ d.room
    omega
end
end Go.Proofs.YtblfhonfjljndaaDoor
