/- the document's Disk in memory. -/
import Derived.Test.YtblfhonfjljndaaDoorRdA
import Derived.Test.YtblfhonfjljndaaDoorRcs
import Derived.Test.YtblfhonfjljndaaDoorDkH
namespace Go.Proofs.YtblfhonfjljndaaDoor
open Go.RowKit Go.Maps Go.WideMaps
set_option maxRecDepth 100000

abbrev fiv (a : Fi × Value) : List Value := [sv a.1.name, a.2, .int .i64 (a.1.last : Int)]
theorem fiv_len (a : Fi × Value) : (fiv a).length = 3 := rfl
def leftI (d : Ds) : Int := if d.fu = true then (d.left : Int) else -1
abbrev rcells (d : Ds) (v : Value) : Array Value := #[.int .i64 (d.room : Int), v, .int .i64 (leftI d)]
abbrev fileT : TypeId := 74
structure RdAt (S : Nat → Prop) (w : World) (bd : Nat) (vL : Value) (A : List (Fi × Value)) (d : Ds) : Prop where
  sd : S bd
  blk : Blk w bd 58 (rcells d vL)
  row : OwnR fiv 3 w fileT vL A
  ro : ∀ k, own vL k → S k ∧ k ≠ bd
  nm : A.map Prod.fst = d.L
  fb : ∀ a ∈ A, Bs w (fun k => S k ∧ k ≠ bd ∧ ¬ own vL k) a.2 a.1.b
  rise : Rise d.L
  fl : ∀ f ∈ d.L, f.last ≤ f.b.length
  room : sumB d.L ≤ d.room
  most : d.room ≤ 1073741824
  few : d.L.length ≤ 4096
  lf : d.left ≤ 9223372036854775807
/-- v is the document's Disk in that state. -/
def Dz (S : Nat → Prop) (w : World) (v : Value) (d : Ds) : Prop := ∃ bd vL A, v = pv bd ∧ RdAt S w bd vL A d
section
variable {S T F : Nat → Prop} {w w' : World} {bd : Nat} {vL v : Value} {A : List (Fi × Value)} {d : Ds}
theorem RdAt.len (h : RdAt S w bd vL A d) : A.length = d.L.length := by rw [← h.nm, List.length_map]
theorem RdAt.fst (h : RdAt S w bd vL A d) {i : Nat} (hi : i < A.length) : A[i].1 = d.L[i]'(by rw [← h.len]; exact hi) := by
  have : (A.map Prod.fst)[i]'(by simpa using hi) = A[i].1 := by simp
  rw [← this]
  congr 1
  exact h.nm
theorem RdAt.mod (h : RdAt S w bd vL A d) (hm : Mod F w w') (hn : ∀ k, k < w.heap.size → S k → ¬ F k) : RdAt S w' bd vL A d where
  sd := h.sd
  blk := h.blk.mod hm (hn _ h.blk.lt h.sd)
  row := h.row.mod hm fun k hk => hn k (h.row.lt hk) (h.ro k hk).1
  ro := h.ro
  nm := h.nm
  fb := fun a ha => (h.fb a ha).mod hm fun k hk hs => hn k hk hs.1
  rise := h.rise
  fl := h.fl
  room := h.room
  most := h.most
  few := h.few
  lf := h.lf
theorem RdAt.mono (h : RdAt S w bd vL A d) (hn : ∀ k, k < w.heap.size → S k → T k) : RdAt T w bd vL A d where
  sd := hn _ h.blk.lt h.sd
  blk := h.blk
  row := h.row
  ro := fun k hk => ⟨hn k (h.row.lt hk) (h.ro k hk).1, (h.ro k hk).2⟩
  nm := h.nm
  fb := fun a ha => (h.fb a ha).mono fun k hk hs => ⟨hn k hk hs.1, hs.2⟩
  rise := h.rise
  fl := h.fl
  room := h.room
  most := h.most
  few := h.few
  lf := h.lf
theorem Dz.mod (h : Dz S w v d) (hm : Mod F w w') (hn : ∀ k, k < w.heap.size → S k → ¬ F k) : Dz S w' v d := by
  obtain ⟨bd, vL, A, rfl, h⟩ := h
  exact ⟨bd, vL, A, rfl, h.mod hm hn⟩
theorem Dz.ext (h : Dz S w v d) (hm : Ext w w') : Dz S w' v d := h.mod hm fun _ _ _ h => h
theorem Dz.mono (h : Dz S w v d) (hn : ∀ k, k < w.heap.size → S k → T k) : Dz T w v d := by
  obtain ⟨bd, vL, A, rfl, h⟩ := h
  exact ⟨bd, vL, A, rfl, h.mono hn⟩
theorem Dz.cut (h : Dz S w v d) : Dz (fun k => S k ∧ k < w.heap.size) w v d := h.mono fun _ h1 h2 => ⟨h2, h1⟩
theorem Dz.grow (h : Dz S w v d) (w0 : World) : Dz (Grow S w0) w v d := h.mono fun _ _ h => .inl h
/-- The Disk's own cells turned. -/
theorem RdAt.self (h : RdAt S w bd vL A d) {fu : Bool} {left : Nat} (hm : Mod (fun k => k = bd) w w') (hb : Blk w' bd 58 (rcells { d with fu := fu, left := left } vL)) (hlf : left ≤ 9223372036854775807) : RdAt S w' bd vL A { d with fu := fu, left := left } where
  sd := h.sd
  blk := hb
  row := h.row.mod hm fun k hk e => (h.ro k hk).2 e
  ro := h.ro
  nm := h.nm
  fb := fun a ha => (h.fb a ha).mod hm fun k _ hs e => hs.2.1 e
  rise := h.rise
  fl := h.fl
  room := h.room
  most := h.most
  few := h.few
  lf := hlf
theorem OwnR.at3 {w : World} {p : Addr} {c n : Nat} {A : List (Fi × Value)} (h : OwnR fiv 3 w fileT (.slice (some p) n c) A) {i : Nat} (hi : i < A.length) :
    p.block < w.heap.size ∧ own (.slice (some p) n c) p.block ∧ w.cell? (p.add (i * 3)) = some (sv A[i].1.name) ∧ w.cell? ⟨(p.add (i * 3)).block, (p.add (i * 3)).off + 1, none⟩ = some A[i].2 ∧ w.cell? ⟨(p.add (i * 3)).block, (p.add (i * 3)).off + 2, none⟩ = some (.int .i64 (A[i].1.last : Int)) ∧
      ∀ j, w.frozen? ⟨(p.add (i * 3)).block, (p.add (i * 3)).off + j, none⟩ = false := by
  rcases h.form with ⟨h0, _⟩ | ⟨g, c', e, h1, h2, h3⟩
  · cases h0
  · injection e with e1 e2 e3
    injection e1 with e1
    subst e1; subst e2; subst e3
    rw [add_base]
    exact ⟨h3, rfl, h.cell fiv_len hi (j := 0) (by omega) rfl, h.cell fiv_len hi (j := 1) (by omega) rfl, h.cell fiv_len hi (j := 2) (by omega) rfl, fun j => h.thaw _⟩
theorem OwnR.set3 {w : World} {p : Addr} {c n : Nat} {A : List (Fi × Value)} (h : OwnR fiv 3 w fileT (.slice (some p) n c) A) {i j : Nat} {u : Value} {a' : Fi × Value} (hi : i < A.length) (hj : j < 3) (ha : fiv a' = (fiv A[i]).set j u) :
    OwnR fiv 3 (w.setCell ⟨(p.add (i * 3)).block, (p.add (i * 3)).off + j, none⟩ u) fileT (.slice (some p) n c) (A.set i a') ∧ Mod (fun k => k = p.block) w (w.setCell ⟨(p.add (i * 3)).block, (p.add (i * 3)).off + j, none⟩ u) := by
  rcases h.form with ⟨h0, _⟩ | ⟨g, c', e, h1, h2, h3⟩
  · cases h0
  · injection e with e1 e2 e3
    injection e1 with e1
    subst e1; subst e2; subst e3
    rw [add_base]
    exact ⟨h.set fiv_len hi hj ha, setg_mod w g _ u⟩
/-- Where the row lies. -/
theorem RdAt.at_ (h : RdAt S w bd vL A d) : ∃ ad c, vL = .slice ad d.L.length c ∧ d.L.length ≤ c ∧ c ≤ 9223372036854775807 ∧ (0 < d.L.length → ∃ p, ad = some p) := by
  rcases h.row.form with ⟨rfl, h0⟩ | ⟨g, c, rfl, h1, h2, h3⟩
  · rw [h.len] at h0
    exact ⟨none, 0, by rw [h0], by omega, by omega, fun hi => by omega⟩
  · rw [h.len] at h1 ⊢
    exact ⟨some ⟨g, 0, none⟩, c, rfl, h1, h2, fun _ => ⟨_, rfl⟩⟩
end
end Go.Proofs.YtblfhonfjljndaaDoor
